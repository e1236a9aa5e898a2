/- Layer 3: the walk of FilesPlays. Conditions: those of the theorem. -/
import Derived.Test.YtffojihhjiogpaaFj12
import Derived.Test.YtffojihhjiogpaaFactsSt
import Derived.Deep.CutBlock
namespace Go.Proofs.Ytffojihhjiogpaa
open Go.RowKit Go Go.Maps
set_option linter.unusedVariables false
set_option linter.unusedSimpArgs false
def findC (r : Nat) : Code → Option (Array Oper)
  | .region id ops _ => if id = r then some ops else none
  | .seq a b => match findC r a with
    | some x => some x
    | none => findC r b
  | .cond _ a b => match findC r a with
    | some x => some x
    | none => findC r b
  | .block _ b => findC r b
  | .loop b => findC r b
  | .scope b => findC r b
  | _ => none
def findF (F : Func) (r : Nat) : Option (Array Oper) := F.body.bind (findC r)
set_option maxRecDepth 100000 in
set_option maxHeartbeats 8000000 in
theorem st13 {w : World} {g gr j q : Nat} {d d2 : Dk} {N2 M2 : Nat} {xk xf xp xn xc : Int} {xs : ByteArray} {xA : Option Addr} {xkc : Nat} {xks : List Bool} {E : Int} {Q : Exit → Act → World → Prop} (ops : Array Oper) (hops : findF Try.f4 13 = some ops) (a0 : Act) (hsz : a0.tmps.size = 256) (h3 : a0.tmps[3]? = some (.pointer (some ⟨g, 0, none⟩))) (h4 : a0.tmps[4]? = some (.pointer (some ⟨gr, 0, none⟩))) (h6 : a0.tmps[6]? = some (.pointer (some ⟨q, 0, none⟩))) (HC1 : Hid (∀ (r : Dk) (M : Nat) (V : World), PlX w g d (3 * j) gr r M q (fopC ⟨xk, xf, xp, xn, xc, xs, xA, xkc, xks⟩) V → Calls Try.prog 14 #[.pointer (some ⟨g, 0, none⟩), .int .i64 xf, .int .i64 xn] V fun e w' => e = .returned (.int .i64 E) ∧ PlX w g d2 N2 gr r M q (fopC ⟨xk, xf, xp, xn, xc, xs, xA, xkc, xks⟩) w')) (HC2 : Hid (∀ (r : Dk) (N : Nat) (V : World), PlX w g r N gr d (3 * j) q (fopC ⟨xk, xf, xp, xn, xc, xs, xA, xkc, xks⟩) V → Calls Try.prog 27 #[.pointer (some ⟨gr, 0, none⟩), .int .i64 xf, .int .i64 xn] V fun e w' => e = .returned (.int .i64 E) ∧ PlX w g r N gr d2 M2 q (fopC ⟨xk, xf, xp, xn, xc, xs, xA, xkc, xks⟩) w')) (HCL : Hid (∀ (b c : Bool) (V : World), PlX w g (if b = true then d else d2) (if b = true then 3 * j else N2) gr (if c = true then d else d2) (if c = true then 3 * j else M2) q (fopC ⟨xk, xf, xp, xn, xc, xs, xA, xkc, xks⟩) V → V.cell? ⟨q, 0, none⟩ = some (.int .i64 xk) ∧ V.cell? ⟨q, 1, none⟩ = some (.int .i64 xf) ∧ V.cell? ⟨q, 2, none⟩ = some (.int .i64 xp) ∧ V.cell? ⟨q, 3, none⟩ = some (.int .i64 xn) ∧ V.cell? ⟨q, 4, none⟩ = some (.int .u8 xc) ∧ V.cell? ⟨q, 5, none⟩ = some (.string xs) ∧ V.cell? ⟨q, 6, none⟩ = some (.slice xA xks.length xkc))) :
    ∀ i ∈ (0 :: 1 :: 2 :: 3 :: 4 :: 5 :: 6 :: 7 :: 8 :: 9 :: 10 :: 11 :: 12 :: []), ∀ b c, (i = 5 → b = true) → (i = 11 → c = true) → ∀ x W, (∀ dd ∈ (fun i => match i with | 2 => [1] | 4 => [3] | 5 => [0, 2, 4] | 8 => [7] | 10 => [9] | 11 => [6, 8, 10] | 12 => [5, 11] | _ => []) i, x dd = (fun i => match i with | 0 => (.pointer (some ⟨g, 0, none⟩) : Value) | 1 => (.pointer (some ⟨q, 1, none⟩) : Value) | 2 => (.int .i64 xf : Value) | 3 => (.pointer (some ⟨q, 3, none⟩) : Value) | 4 => (.int .i64 xn : Value) | 5 => (.int .i64 E : Value) | 6 => (.pointer (some ⟨gr, 0, none⟩) : Value) | 7 => (.pointer (some ⟨q, 1, none⟩) : Value) | 8 => (.int .i64 xf : Value) | 9 => (.pointer (some ⟨q, 3, none⟩) : Value) | 10 => (.int .i64 xn : Value) | 11 => (.int .i64 E : Value) | 12 => (.bool false : Value) | _ => undef) dd) → (fun b c W => PlX w g (if b then d else d2) (if b then 3 * j else N2) gr (if c then d else d2) (if c then 3 * j else M2) q (fopC ⟨xk, xf, xp, xn, xc, xs, xA, xkc, xks⟩) W) b c W → ∀ K : Act → World → Prop, (∀ w', (fun b c W => PlX w g (if b then d else d2) (if b then 3 * j else N2) gr (if c then d else d2) (if c then 3 * j else M2) q (fopC ⟨xk, xf, xp, xn, xc, xs, xA, xkc, xks⟩) W) (if i = 5 then false else b) (if i = 11 then false else c) w' → K ((putsA ops a0 x (0 :: 1 :: 2 :: 3 :: 4 :: 5 :: 6 :: 7 :: 8 :: 9 :: 10 :: 11 :: 12 :: [])).put (dstOf ops i) ((fun i => match i with | 0 => (.pointer (some ⟨g, 0, none⟩) : Value) | 1 => (.pointer (some ⟨q, 1, none⟩) : Value) | 2 => (.int .i64 xf : Value) | 3 => (.pointer (some ⟨q, 3, none⟩) : Value) | 4 => (.int .i64 xn : Value) | 5 => (.int .i64 E : Value) | 6 => (.pointer (some ⟨gr, 0, none⟩) : Value) | 7 => (.pointer (some ⟨q, 1, none⟩) : Value) | 8 => (.int .i64 xf : Value) | 9 => (.pointer (some ⟨q, 3, none⟩) : Value) | 10 => (.int .i64 xn : Value) | 11 => (.int .i64 E : Value) | 12 => (.bool false : Value) | _ => undef) i)) w') → wpOp Try.prog ops Q i K (putsA ops a0 x (0 :: 1 :: 2 :: 3 :: 4 :: 5 :: 6 :: 7 :: 8 :: 9 :: 10 :: 11 :: 12 :: [])) W := by
  conv at hops => lhs; whnf
  injection hops with hops
  subst hops
  intro i hi b c hpb hqc x W hd hI K hK
  have hcl := HCL.out b c
  simp only [List.mem_cons, List.not_mem_nil, or_false] at hi
  rcases hi with rfl | rfl | rfl | rfl | rfl | rfl | rfl | rfl | rfl | rfl | rfl | rfl | rfl
  · generalize hA : putsA _ _ x (0 :: 1 :: 2 :: 3 :: 4 :: 5 :: 6 :: 7 :: 8 :: 9 :: 10 :: 11 :: 12 :: []) = A at *
    have e3 : A.tmps[3]? = some (.pointer (some ⟨g, 0, none⟩)) := by rw [← hA]; exact (putsA_at 3 _ (by decide +kernel)).trans h3
    clear hA hd h3 h4 h6
    refine wpOp_step rfl (fun K' hK' => ?_)
    go_simp
    exact hK' _ _ (hK _ hI)
  · generalize hA : putsA _ _ x (0 :: 1 :: 2 :: 3 :: 4 :: 5 :: 6 :: 7 :: 8 :: 9 :: 10 :: 11 :: 12 :: []) = A at *
    have e6 : A.tmps[6]? = some (.pointer (some ⟨q, 0, none⟩)) := by rw [← hA]; exact (putsA_at 6 _ (by decide +kernel)).trans h6
    clear hA hd h3 h4 h6
    refine wpOp_step rfl (fun K' hK' => ?_)
    go_simp
    exact hK' _ _ (hK _ hI)
  · generalize hA : putsA _ _ x (0 :: 1 :: 2 :: 3 :: 4 :: 5 :: 6 :: 7 :: 8 :: 9 :: 10 :: 11 :: 12 :: []) = A at *
    have e57 : A.tmps[57]? = some (x 1) := by rw [← hA]; exact putsA_in (i := 1) 57 (by rfl) (by rw [hsz]; decide) _ (by decide +kernel) (by decide)
    have f1 : x 1 = .pointer (some ⟨q, 1, none⟩) := hd 1 (by decide)
    rw [f1] at e57
    clear hA hd h3 h4 h6
    obtain ⟨c0, c1, c2, c3, c4, c5, c6⟩ := hcl W hI
    refine wpOp_step rfl (fun K' hK' => ?_)
    go_simp
    exact hK' _ _ (hK _ hI)
  · generalize hA : putsA _ _ x (0 :: 1 :: 2 :: 3 :: 4 :: 5 :: 6 :: 7 :: 8 :: 9 :: 10 :: 11 :: 12 :: []) = A at *
    have e6 : A.tmps[6]? = some (.pointer (some ⟨q, 0, none⟩)) := by rw [← hA]; exact (putsA_at 6 _ (by decide +kernel)).trans h6
    clear hA hd h3 h4 h6
    refine wpOp_step rfl (fun K' hK' => ?_)
    go_simp
    exact hK' _ _ (hK _ hI)
  · generalize hA : putsA _ _ x (0 :: 1 :: 2 :: 3 :: 4 :: 5 :: 6 :: 7 :: 8 :: 9 :: 10 :: 11 :: 12 :: []) = A at *
    have e59 : A.tmps[59]? = some (x 3) := by rw [← hA]; exact putsA_in (i := 3) 59 (by rfl) (by rw [hsz]; decide) _ (by decide +kernel) (by decide)
    have f3 : x 3 = .pointer (some ⟨q, 3, none⟩) := hd 3 (by decide)
    rw [f3] at e59
    clear hA hd h3 h4 h6
    obtain ⟨c0, c1, c2, c3, c4, c5, c6⟩ := hcl W hI
    refine wpOp_step rfl (fun K' hK' => ?_)
    go_simp
    exact hK' _ _ (hK _ hI)
  · generalize hA : putsA _ _ x (0 :: 1 :: 2 :: 3 :: 4 :: 5 :: 6 :: 7 :: 8 :: 9 :: 10 :: 11 :: 12 :: []) = A at *
    have e56 : A.tmps[56]? = some (x 0) := by rw [← hA]; exact putsA_in (i := 0) 56 (by rfl) (by rw [hsz]; decide) _ (by decide +kernel) (by decide)
    have f0 : x 0 = .pointer (some ⟨g, 0, none⟩) := hd 0 (by decide)
    rw [f0] at e56
    have e58 : A.tmps[58]? = some (x 2) := by rw [← hA]; exact putsA_in (i := 2) 58 (by rfl) (by rw [hsz]; decide) _ (by decide +kernel) (by decide)
    have f2 : x 2 = .int .i64 xf := hd 2 (by decide)
    rw [f2] at e58
    have e60 : A.tmps[60]? = some (x 4) := by rw [← hA]; exact putsA_in (i := 4) 60 (by rfl) (by rw [hsz]; decide) _ (by decide +kernel) (by decide)
    have f4 : x 4 = .int .i64 xn := hd 4 (by decide)
    rw [f4] at e60
    clear hA hd h3 h4 h6
    obtain rfl : b = true := hpb rfl
    refine wpOp_step rfl (fun K' hK' => ?_)
    go_simp
    refine (HC1.out _ _ W hI).mono ?_
    rintro e w' ⟨rfl, hx⟩
    exact hK' _ _ (hK _ hx)
  · generalize hA : putsA _ _ x (0 :: 1 :: 2 :: 3 :: 4 :: 5 :: 6 :: 7 :: 8 :: 9 :: 10 :: 11 :: 12 :: []) = A at *
    have e4 : A.tmps[4]? = some (.pointer (some ⟨gr, 0, none⟩)) := by rw [← hA]; exact (putsA_at 4 _ (by decide +kernel)).trans h4
    clear hA hd h3 h4 h6
    refine wpOp_step rfl (fun K' hK' => ?_)
    go_simp
    exact hK' _ _ (hK _ hI)
  · generalize hA : putsA _ _ x (0 :: 1 :: 2 :: 3 :: 4 :: 5 :: 6 :: 7 :: 8 :: 9 :: 10 :: 11 :: 12 :: []) = A at *
    have e6 : A.tmps[6]? = some (.pointer (some ⟨q, 0, none⟩)) := by rw [← hA]; exact (putsA_at 6 _ (by decide +kernel)).trans h6
    clear hA hd h3 h4 h6
    refine wpOp_step rfl (fun K' hK' => ?_)
    go_simp
    exact hK' _ _ (hK _ hI)
  · generalize hA : putsA _ _ x (0 :: 1 :: 2 :: 3 :: 4 :: 5 :: 6 :: 7 :: 8 :: 9 :: 10 :: 11 :: 12 :: []) = A at *
    have e63 : A.tmps[63]? = some (x 7) := by rw [← hA]; exact putsA_in (i := 7) 63 (by rfl) (by rw [hsz]; decide) _ (by decide +kernel) (by decide)
    have f7 : x 7 = .pointer (some ⟨q, 1, none⟩) := hd 7 (by decide)
    rw [f7] at e63
    clear hA hd h3 h4 h6
    obtain ⟨c0, c1, c2, c3, c4, c5, c6⟩ := hcl W hI
    refine wpOp_step rfl (fun K' hK' => ?_)
    go_simp
    exact hK' _ _ (hK _ hI)
  · generalize hA : putsA _ _ x (0 :: 1 :: 2 :: 3 :: 4 :: 5 :: 6 :: 7 :: 8 :: 9 :: 10 :: 11 :: 12 :: []) = A at *
    have e6 : A.tmps[6]? = some (.pointer (some ⟨q, 0, none⟩)) := by rw [← hA]; exact (putsA_at 6 _ (by decide +kernel)).trans h6
    clear hA hd h3 h4 h6
    refine wpOp_step rfl (fun K' hK' => ?_)
    go_simp
    exact hK' _ _ (hK _ hI)
  · generalize hA : putsA _ _ x (0 :: 1 :: 2 :: 3 :: 4 :: 5 :: 6 :: 7 :: 8 :: 9 :: 10 :: 11 :: 12 :: []) = A at *
    have e65 : A.tmps[65]? = some (x 9) := by rw [← hA]; exact putsA_in (i := 9) 65 (by rfl) (by rw [hsz]; decide) _ (by decide +kernel) (by decide)
    have f9 : x 9 = .pointer (some ⟨q, 3, none⟩) := hd 9 (by decide)
    rw [f9] at e65
    clear hA hd h3 h4 h6
    obtain ⟨c0, c1, c2, c3, c4, c5, c6⟩ := hcl W hI
    refine wpOp_step rfl (fun K' hK' => ?_)
    go_simp
    exact hK' _ _ (hK _ hI)
  · generalize hA : putsA _ _ x (0 :: 1 :: 2 :: 3 :: 4 :: 5 :: 6 :: 7 :: 8 :: 9 :: 10 :: 11 :: 12 :: []) = A at *
    have e62 : A.tmps[62]? = some (x 6) := by rw [← hA]; exact putsA_in (i := 6) 62 (by rfl) (by rw [hsz]; decide) _ (by decide +kernel) (by decide)
    have f6 : x 6 = .pointer (some ⟨gr, 0, none⟩) := hd 6 (by decide)
    rw [f6] at e62
    have e64 : A.tmps[64]? = some (x 8) := by rw [← hA]; exact putsA_in (i := 8) 64 (by rfl) (by rw [hsz]; decide) _ (by decide +kernel) (by decide)
    have f8 : x 8 = .int .i64 xf := hd 8 (by decide)
    rw [f8] at e64
    have e66 : A.tmps[66]? = some (x 10) := by rw [← hA]; exact putsA_in (i := 10) 66 (by rfl) (by rw [hsz]; decide) _ (by decide +kernel) (by decide)
    have f10 : x 10 = .int .i64 xn := hd 10 (by decide)
    rw [f10] at e66
    clear hA hd h3 h4 h6
    obtain rfl : c = true := hqc rfl
    refine wpOp_step rfl (fun K' hK' => ?_)
    go_simp
    refine (HC2.out _ _ W hI).mono ?_
    rintro e w' ⟨rfl, hx⟩
    exact hK' _ _ (hK _ hx)
  · generalize hA : putsA _ _ x (0 :: 1 :: 2 :: 3 :: 4 :: 5 :: 6 :: 7 :: 8 :: 9 :: 10 :: 11 :: 12 :: []) = A at *
    have e61 : A.tmps[61]? = some (x 5) := by rw [← hA]; exact putsA_in (i := 5) 61 (by rfl) (by rw [hsz]; decide) _ (by decide +kernel) (by decide)
    have f5 : x 5 = .int .i64 E := hd 5 (by decide)
    rw [f5] at e61
    have e67 : A.tmps[67]? = some (x 11) := by rw [← hA]; exact putsA_in (i := 11) 67 (by rfl) (by rw [hsz]; decide) _ (by decide +kernel) (by decide)
    have f11 : x 11 = .int .i64 E := hd 11 (by decide)
    rw [f11] at e67
    clear hA hd h3 h4 h6
    refine wpOp_step rfl (fun K' hK' => ?_)
    go_simp
    exact hK' _ _ (hK _ hI)
set_option maxRecDepth 100000 in
set_option maxHeartbeats 8000000 in
theorem st16 {w : World} {g gr j q : Nat} {d d2 : Dk} {N2 M2 : Nat} {xk xf xp xn xc : Int} {xs : ByteArray} {xA : Option Addr} {xkc : Nat} {xks : List Bool} {E : Int} {Q : Exit → Act → World → Prop} (ops : Array Oper) (hops : findF Try.f4 16 = some ops) (a0 : Act) (hsz : a0.tmps.size = 256) (h3 : a0.tmps[3]? = some (.pointer (some ⟨g, 0, none⟩))) (h4 : a0.tmps[4]? = some (.pointer (some ⟨gr, 0, none⟩))) (h6 : a0.tmps[6]? = some (.pointer (some ⟨q, 0, none⟩))) (HC1 : Hid (∀ (r : Dk) (M : Nat) (V : World), PlX w g d (3 * j) gr r M q (fopC ⟨xk, xf, xp, xn, xc, xs, xA, xkc, xks⟩) V → Calls Try.prog 18 #[.pointer (some ⟨g, 0, none⟩), .int .i64 xf] V fun e w' => e = .returned (.int .i64 E) ∧ PlX w g d2 N2 gr r M q (fopC ⟨xk, xf, xp, xn, xc, xs, xA, xkc, xks⟩) w')) (HC2 : Hid (∀ (r : Dk) (N : Nat) (V : World), PlX w g r N gr d (3 * j) q (fopC ⟨xk, xf, xp, xn, xc, xs, xA, xkc, xks⟩) V → Calls Try.prog 28 #[.pointer (some ⟨gr, 0, none⟩), .int .i64 xf] V fun e w' => e = .returned (.int .i64 E) ∧ PlX w g r N gr d2 M2 q (fopC ⟨xk, xf, xp, xn, xc, xs, xA, xkc, xks⟩) w')) (HCL : Hid (∀ (b c : Bool) (V : World), PlX w g (if b = true then d else d2) (if b = true then 3 * j else N2) gr (if c = true then d else d2) (if c = true then 3 * j else M2) q (fopC ⟨xk, xf, xp, xn, xc, xs, xA, xkc, xks⟩) V → V.cell? ⟨q, 0, none⟩ = some (.int .i64 xk) ∧ V.cell? ⟨q, 1, none⟩ = some (.int .i64 xf) ∧ V.cell? ⟨q, 2, none⟩ = some (.int .i64 xp) ∧ V.cell? ⟨q, 3, none⟩ = some (.int .i64 xn) ∧ V.cell? ⟨q, 4, none⟩ = some (.int .u8 xc) ∧ V.cell? ⟨q, 5, none⟩ = some (.string xs) ∧ V.cell? ⟨q, 6, none⟩ = some (.slice xA xks.length xkc))) :
    ∀ i ∈ (0 :: 1 :: 2 :: 3 :: 4 :: 5 :: 6 :: 7 :: 8 :: []), ∀ b c, (i = 3 → b = true) → (i = 7 → c = true) → ∀ x W, (∀ dd ∈ (fun i => match i with | 2 => [1] | 3 => [0, 2] | 6 => [5] | 7 => [4, 6] | 8 => [3, 7] | _ => []) i, x dd = (fun i => match i with | 0 => (.pointer (some ⟨g, 0, none⟩) : Value) | 1 => (.pointer (some ⟨q, 1, none⟩) : Value) | 2 => (.int .i64 xf : Value) | 3 => (.int .i64 E : Value) | 4 => (.pointer (some ⟨gr, 0, none⟩) : Value) | 5 => (.pointer (some ⟨q, 1, none⟩) : Value) | 6 => (.int .i64 xf : Value) | 7 => (.int .i64 E : Value) | 8 => (.bool false : Value) | _ => undef) dd) → (fun b c W => PlX w g (if b then d else d2) (if b then 3 * j else N2) gr (if c then d else d2) (if c then 3 * j else M2) q (fopC ⟨xk, xf, xp, xn, xc, xs, xA, xkc, xks⟩) W) b c W → ∀ K : Act → World → Prop, (∀ w', (fun b c W => PlX w g (if b then d else d2) (if b then 3 * j else N2) gr (if c then d else d2) (if c then 3 * j else M2) q (fopC ⟨xk, xf, xp, xn, xc, xs, xA, xkc, xks⟩) W) (if i = 3 then false else b) (if i = 7 then false else c) w' → K ((putsA ops a0 x (0 :: 1 :: 2 :: 3 :: 4 :: 5 :: 6 :: 7 :: 8 :: [])).put (dstOf ops i) ((fun i => match i with | 0 => (.pointer (some ⟨g, 0, none⟩) : Value) | 1 => (.pointer (some ⟨q, 1, none⟩) : Value) | 2 => (.int .i64 xf : Value) | 3 => (.int .i64 E : Value) | 4 => (.pointer (some ⟨gr, 0, none⟩) : Value) | 5 => (.pointer (some ⟨q, 1, none⟩) : Value) | 6 => (.int .i64 xf : Value) | 7 => (.int .i64 E : Value) | 8 => (.bool false : Value) | _ => undef) i)) w') → wpOp Try.prog ops Q i K (putsA ops a0 x (0 :: 1 :: 2 :: 3 :: 4 :: 5 :: 6 :: 7 :: 8 :: [])) W := by
  conv at hops => lhs; whnf
  injection hops with hops
  subst hops
  intro i hi b c hpb hqc x W hd hI K hK
  have hcl := HCL.out b c
  simp only [List.mem_cons, List.not_mem_nil, or_false] at hi
  rcases hi with rfl | rfl | rfl | rfl | rfl | rfl | rfl | rfl | rfl
  · generalize hA : putsA _ _ x (0 :: 1 :: 2 :: 3 :: 4 :: 5 :: 6 :: 7 :: 8 :: []) = A at *
    have e3 : A.tmps[3]? = some (.pointer (some ⟨g, 0, none⟩)) := by rw [← hA]; exact (putsA_at 3 _ (by decide +kernel)).trans h3
    clear hA hd h3 h4 h6
    refine wpOp_step rfl (fun K' hK' => ?_)
    go_simp
    exact hK' _ _ (hK _ hI)
  · generalize hA : putsA _ _ x (0 :: 1 :: 2 :: 3 :: 4 :: 5 :: 6 :: 7 :: 8 :: []) = A at *
    have e6 : A.tmps[6]? = some (.pointer (some ⟨q, 0, none⟩)) := by rw [← hA]; exact (putsA_at 6 _ (by decide +kernel)).trans h6
    clear hA hd h3 h4 h6
    refine wpOp_step rfl (fun K' hK' => ?_)
    go_simp
    exact hK' _ _ (hK _ hI)
  · generalize hA : putsA _ _ x (0 :: 1 :: 2 :: 3 :: 4 :: 5 :: 6 :: 7 :: 8 :: []) = A at *
    have e72 : A.tmps[72]? = some (x 1) := by rw [← hA]; exact putsA_in (i := 1) 72 (by rfl) (by rw [hsz]; decide) _ (by decide +kernel) (by decide)
    have f1 : x 1 = .pointer (some ⟨q, 1, none⟩) := hd 1 (by decide)
    rw [f1] at e72
    clear hA hd h3 h4 h6
    obtain ⟨c0, c1, c2, c3, c4, c5, c6⟩ := hcl W hI
    refine wpOp_step rfl (fun K' hK' => ?_)
    go_simp
    exact hK' _ _ (hK _ hI)
  · generalize hA : putsA _ _ x (0 :: 1 :: 2 :: 3 :: 4 :: 5 :: 6 :: 7 :: 8 :: []) = A at *
    have e71 : A.tmps[71]? = some (x 0) := by rw [← hA]; exact putsA_in (i := 0) 71 (by rfl) (by rw [hsz]; decide) _ (by decide +kernel) (by decide)
    have f0 : x 0 = .pointer (some ⟨g, 0, none⟩) := hd 0 (by decide)
    rw [f0] at e71
    have e73 : A.tmps[73]? = some (x 2) := by rw [← hA]; exact putsA_in (i := 2) 73 (by rfl) (by rw [hsz]; decide) _ (by decide +kernel) (by decide)
    have f2 : x 2 = .int .i64 xf := hd 2 (by decide)
    rw [f2] at e73
    clear hA hd h3 h4 h6
    obtain rfl : b = true := hpb rfl
    refine wpOp_step rfl (fun K' hK' => ?_)
    go_simp
    refine (HC1.out _ _ W hI).mono ?_
    rintro e w' ⟨rfl, hx⟩
    exact hK' _ _ (hK _ hx)
  · generalize hA : putsA _ _ x (0 :: 1 :: 2 :: 3 :: 4 :: 5 :: 6 :: 7 :: 8 :: []) = A at *
    have e4 : A.tmps[4]? = some (.pointer (some ⟨gr, 0, none⟩)) := by rw [← hA]; exact (putsA_at 4 _ (by decide +kernel)).trans h4
    clear hA hd h3 h4 h6
    refine wpOp_step rfl (fun K' hK' => ?_)
    go_simp
    exact hK' _ _ (hK _ hI)
  · generalize hA : putsA _ _ x (0 :: 1 :: 2 :: 3 :: 4 :: 5 :: 6 :: 7 :: 8 :: []) = A at *
    have e6 : A.tmps[6]? = some (.pointer (some ⟨q, 0, none⟩)) := by rw [← hA]; exact (putsA_at 6 _ (by decide +kernel)).trans h6
    clear hA hd h3 h4 h6
    refine wpOp_step rfl (fun K' hK' => ?_)
    go_simp
    exact hK' _ _ (hK _ hI)
  · generalize hA : putsA _ _ x (0 :: 1 :: 2 :: 3 :: 4 :: 5 :: 6 :: 7 :: 8 :: []) = A at *
    have e76 : A.tmps[76]? = some (x 5) := by rw [← hA]; exact putsA_in (i := 5) 76 (by rfl) (by rw [hsz]; decide) _ (by decide +kernel) (by decide)
    have f5 : x 5 = .pointer (some ⟨q, 1, none⟩) := hd 5 (by decide)
    rw [f5] at e76
    clear hA hd h3 h4 h6
    obtain ⟨c0, c1, c2, c3, c4, c5, c6⟩ := hcl W hI
    refine wpOp_step rfl (fun K' hK' => ?_)
    go_simp
    exact hK' _ _ (hK _ hI)
  · generalize hA : putsA _ _ x (0 :: 1 :: 2 :: 3 :: 4 :: 5 :: 6 :: 7 :: 8 :: []) = A at *
    have e75 : A.tmps[75]? = some (x 4) := by rw [← hA]; exact putsA_in (i := 4) 75 (by rfl) (by rw [hsz]; decide) _ (by decide +kernel) (by decide)
    have f4 : x 4 = .pointer (some ⟨gr, 0, none⟩) := hd 4 (by decide)
    rw [f4] at e75
    have e77 : A.tmps[77]? = some (x 6) := by rw [← hA]; exact putsA_in (i := 6) 77 (by rfl) (by rw [hsz]; decide) _ (by decide +kernel) (by decide)
    have f6 : x 6 = .int .i64 xf := hd 6 (by decide)
    rw [f6] at e77
    clear hA hd h3 h4 h6
    obtain rfl : c = true := hqc rfl
    refine wpOp_step rfl (fun K' hK' => ?_)
    go_simp
    refine (HC2.out _ _ W hI).mono ?_
    rintro e w' ⟨rfl, hx⟩
    exact hK' _ _ (hK _ hx)
  · generalize hA : putsA _ _ x (0 :: 1 :: 2 :: 3 :: 4 :: 5 :: 6 :: 7 :: 8 :: []) = A at *
    have e74 : A.tmps[74]? = some (x 3) := by rw [← hA]; exact putsA_in (i := 3) 74 (by rfl) (by rw [hsz]; decide) _ (by decide +kernel) (by decide)
    have f3 : x 3 = .int .i64 E := hd 3 (by decide)
    rw [f3] at e74
    have e78 : A.tmps[78]? = some (x 7) := by rw [← hA]; exact putsA_in (i := 7) 78 (by rfl) (by rw [hsz]; decide) _ (by decide +kernel) (by decide)
    have f7 : x 7 = .int .i64 E := hd 7 (by decide)
    rw [f7] at e78
    clear hA hd h3 h4 h6
    refine wpOp_step rfl (fun K' hK' => ?_)
    go_simp
    exact hK' _ _ (hK _ hI)
set_option maxRecDepth 100000 in
set_option maxHeartbeats 8000000 in
theorem st27 {w : World} {g gr j q : Nat} {d d2 : Dk} {N2 M2 : Nat} {xk xf xp xn xc : Int} {xs : ByteArray} {xA : Option Addr} {xkc : Nat} {xks : List Bool} {E : Int} {Q : Exit → Act → World → Prop} (ops : Array Oper) (hops : findF Try.f4 27 = some ops) (a0 : Act) (hsz : a0.tmps.size = 256) (h3 : a0.tmps[3]? = some (.pointer (some ⟨g, 0, none⟩))) (h4 : a0.tmps[4]? = some (.pointer (some ⟨gr, 0, none⟩))) (h6 : a0.tmps[6]? = some (.pointer (some ⟨q, 0, none⟩))) (HC1 : Hid (∀ (r : Dk) (M : Nat) (V : World), PlX w g d (3 * j) gr r M q (fopC ⟨xk, xf, xp, xn, xc, xs, xA, xkc, xks⟩) V → Calls Try.prog 20 #[.pointer (some ⟨g, 0, none⟩), .int .i64 xn] V fun e w' => e = .returned (.int .i64 E) ∧ PlX w g d2 N2 gr r M q (fopC ⟨xk, xf, xp, xn, xc, xs, xA, xkc, xks⟩) w')) (HC2 : Hid (∀ (r : Dk) (N : Nat) (V : World), PlX w g r N gr d (3 * j) q (fopC ⟨xk, xf, xp, xn, xc, xs, xA, xkc, xks⟩) V → Calls Try.prog 32 #[.pointer (some ⟨gr, 0, none⟩), .int .i64 xn] V fun e w' => e = .returned (.int .i64 E) ∧ PlX w g r N gr d2 M2 q (fopC ⟨xk, xf, xp, xn, xc, xs, xA, xkc, xks⟩) w')) (HCL : Hid (∀ (b c : Bool) (V : World), PlX w g (if b = true then d else d2) (if b = true then 3 * j else N2) gr (if c = true then d else d2) (if c = true then 3 * j else M2) q (fopC ⟨xk, xf, xp, xn, xc, xs, xA, xkc, xks⟩) V → V.cell? ⟨q, 0, none⟩ = some (.int .i64 xk) ∧ V.cell? ⟨q, 1, none⟩ = some (.int .i64 xf) ∧ V.cell? ⟨q, 2, none⟩ = some (.int .i64 xp) ∧ V.cell? ⟨q, 3, none⟩ = some (.int .i64 xn) ∧ V.cell? ⟨q, 4, none⟩ = some (.int .u8 xc) ∧ V.cell? ⟨q, 5, none⟩ = some (.string xs) ∧ V.cell? ⟨q, 6, none⟩ = some (.slice xA xks.length xkc))) :
    ∀ i ∈ (0 :: 1 :: 2 :: 3 :: 4 :: 5 :: 6 :: 7 :: 8 :: []), ∀ b c, (i = 3 → b = true) → (i = 7 → c = true) → ∀ x W, (∀ dd ∈ (fun i => match i with | 2 => [1] | 3 => [0, 2] | 6 => [5] | 7 => [4, 6] | 8 => [3, 7] | _ => []) i, x dd = (fun i => match i with | 0 => (.pointer (some ⟨g, 0, none⟩) : Value) | 1 => (.pointer (some ⟨q, 3, none⟩) : Value) | 2 => (.int .i64 xn : Value) | 3 => (.int .i64 E : Value) | 4 => (.pointer (some ⟨gr, 0, none⟩) : Value) | 5 => (.pointer (some ⟨q, 3, none⟩) : Value) | 6 => (.int .i64 xn : Value) | 7 => (.int .i64 E : Value) | 8 => (.bool false : Value) | _ => undef) dd) → (fun b c W => PlX w g (if b then d else d2) (if b then 3 * j else N2) gr (if c then d else d2) (if c then 3 * j else M2) q (fopC ⟨xk, xf, xp, xn, xc, xs, xA, xkc, xks⟩) W) b c W → ∀ K : Act → World → Prop, (∀ w', (fun b c W => PlX w g (if b then d else d2) (if b then 3 * j else N2) gr (if c then d else d2) (if c then 3 * j else M2) q (fopC ⟨xk, xf, xp, xn, xc, xs, xA, xkc, xks⟩) W) (if i = 3 then false else b) (if i = 7 then false else c) w' → K ((putsA ops a0 x (0 :: 1 :: 2 :: 3 :: 4 :: 5 :: 6 :: 7 :: 8 :: [])).put (dstOf ops i) ((fun i => match i with | 0 => (.pointer (some ⟨g, 0, none⟩) : Value) | 1 => (.pointer (some ⟨q, 3, none⟩) : Value) | 2 => (.int .i64 xn : Value) | 3 => (.int .i64 E : Value) | 4 => (.pointer (some ⟨gr, 0, none⟩) : Value) | 5 => (.pointer (some ⟨q, 3, none⟩) : Value) | 6 => (.int .i64 xn : Value) | 7 => (.int .i64 E : Value) | 8 => (.bool false : Value) | _ => undef) i)) w') → wpOp Try.prog ops Q i K (putsA ops a0 x (0 :: 1 :: 2 :: 3 :: 4 :: 5 :: 6 :: 7 :: 8 :: [])) W := by
  conv at hops => lhs; whnf
  injection hops with hops
  subst hops
  intro i hi b c hpb hqc x W hd hI K hK
  have hcl := HCL.out b c
  simp only [List.mem_cons, List.not_mem_nil, or_false] at hi
  rcases hi with rfl | rfl | rfl | rfl | rfl | rfl | rfl | rfl | rfl
  · generalize hA : putsA _ _ x (0 :: 1 :: 2 :: 3 :: 4 :: 5 :: 6 :: 7 :: 8 :: []) = A at *
    have e3 : A.tmps[3]? = some (.pointer (some ⟨g, 0, none⟩)) := by rw [← hA]; exact (putsA_at 3 _ (by decide +kernel)).trans h3
    clear hA hd h3 h4 h6
    refine wpOp_step rfl (fun K' hK' => ?_)
    go_simp
    exact hK' _ _ (hK _ hI)
  · generalize hA : putsA _ _ x (0 :: 1 :: 2 :: 3 :: 4 :: 5 :: 6 :: 7 :: 8 :: []) = A at *
    have e6 : A.tmps[6]? = some (.pointer (some ⟨q, 0, none⟩)) := by rw [← hA]; exact (putsA_at 6 _ (by decide +kernel)).trans h6
    clear hA hd h3 h4 h6
    refine wpOp_step rfl (fun K' hK' => ?_)
    go_simp
    exact hK' _ _ (hK _ hI)
  · generalize hA : putsA _ _ x (0 :: 1 :: 2 :: 3 :: 4 :: 5 :: 6 :: 7 :: 8 :: []) = A at *
    have e135 : A.tmps[135]? = some (x 1) := by rw [← hA]; exact putsA_in (i := 1) 135 (by rfl) (by rw [hsz]; decide) _ (by decide +kernel) (by decide)
    have f1 : x 1 = .pointer (some ⟨q, 3, none⟩) := hd 1 (by decide)
    rw [f1] at e135
    clear hA hd h3 h4 h6
    obtain ⟨c0, c1, c2, c3, c4, c5, c6⟩ := hcl W hI
    refine wpOp_step rfl (fun K' hK' => ?_)
    go_simp
    exact hK' _ _ (hK _ hI)
  · generalize hA : putsA _ _ x (0 :: 1 :: 2 :: 3 :: 4 :: 5 :: 6 :: 7 :: 8 :: []) = A at *
    have e134 : A.tmps[134]? = some (x 0) := by rw [← hA]; exact putsA_in (i := 0) 134 (by rfl) (by rw [hsz]; decide) _ (by decide +kernel) (by decide)
    have f0 : x 0 = .pointer (some ⟨g, 0, none⟩) := hd 0 (by decide)
    rw [f0] at e134
    have e136 : A.tmps[136]? = some (x 2) := by rw [← hA]; exact putsA_in (i := 2) 136 (by rfl) (by rw [hsz]; decide) _ (by decide +kernel) (by decide)
    have f2 : x 2 = .int .i64 xn := hd 2 (by decide)
    rw [f2] at e136
    clear hA hd h3 h4 h6
    obtain rfl : b = true := hpb rfl
    refine wpOp_step rfl (fun K' hK' => ?_)
    go_simp
    refine (HC1.out _ _ W hI).mono ?_
    rintro e w' ⟨rfl, hx⟩
    exact hK' _ _ (hK _ hx)
  · generalize hA : putsA _ _ x (0 :: 1 :: 2 :: 3 :: 4 :: 5 :: 6 :: 7 :: 8 :: []) = A at *
    have e4 : A.tmps[4]? = some (.pointer (some ⟨gr, 0, none⟩)) := by rw [← hA]; exact (putsA_at 4 _ (by decide +kernel)).trans h4
    clear hA hd h3 h4 h6
    refine wpOp_step rfl (fun K' hK' => ?_)
    go_simp
    exact hK' _ _ (hK _ hI)
  · generalize hA : putsA _ _ x (0 :: 1 :: 2 :: 3 :: 4 :: 5 :: 6 :: 7 :: 8 :: []) = A at *
    have e6 : A.tmps[6]? = some (.pointer (some ⟨q, 0, none⟩)) := by rw [← hA]; exact (putsA_at 6 _ (by decide +kernel)).trans h6
    clear hA hd h3 h4 h6
    refine wpOp_step rfl (fun K' hK' => ?_)
    go_simp
    exact hK' _ _ (hK _ hI)
  · generalize hA : putsA _ _ x (0 :: 1 :: 2 :: 3 :: 4 :: 5 :: 6 :: 7 :: 8 :: []) = A at *
    have e139 : A.tmps[139]? = some (x 5) := by rw [← hA]; exact putsA_in (i := 5) 139 (by rfl) (by rw [hsz]; decide) _ (by decide +kernel) (by decide)
    have f5 : x 5 = .pointer (some ⟨q, 3, none⟩) := hd 5 (by decide)
    rw [f5] at e139
    clear hA hd h3 h4 h6
    obtain ⟨c0, c1, c2, c3, c4, c5, c6⟩ := hcl W hI
    refine wpOp_step rfl (fun K' hK' => ?_)
    go_simp
    exact hK' _ _ (hK _ hI)
  · generalize hA : putsA _ _ x (0 :: 1 :: 2 :: 3 :: 4 :: 5 :: 6 :: 7 :: 8 :: []) = A at *
    have e138 : A.tmps[138]? = some (x 4) := by rw [← hA]; exact putsA_in (i := 4) 138 (by rfl) (by rw [hsz]; decide) _ (by decide +kernel) (by decide)
    have f4 : x 4 = .pointer (some ⟨gr, 0, none⟩) := hd 4 (by decide)
    rw [f4] at e138
    have e140 : A.tmps[140]? = some (x 6) := by rw [← hA]; exact putsA_in (i := 6) 140 (by rfl) (by rw [hsz]; decide) _ (by decide +kernel) (by decide)
    have f6 : x 6 = .int .i64 xn := hd 6 (by decide)
    rw [f6] at e140
    clear hA hd h3 h4 h6
    obtain rfl : c = true := hqc rfl
    refine wpOp_step rfl (fun K' hK' => ?_)
    go_simp
    refine (HC2.out _ _ W hI).mono ?_
    rintro e w' ⟨rfl, hx⟩
    exact hK' _ _ (hK _ hx)
  · generalize hA : putsA _ _ x (0 :: 1 :: 2 :: 3 :: 4 :: 5 :: 6 :: 7 :: 8 :: []) = A at *
    have e137 : A.tmps[137]? = some (x 3) := by rw [← hA]; exact putsA_in (i := 3) 137 (by rfl) (by rw [hsz]; decide) _ (by decide +kernel) (by decide)
    have f3 : x 3 = .int .i64 E := hd 3 (by decide)
    rw [f3] at e137
    have e141 : A.tmps[141]? = some (x 7) := by rw [← hA]; exact putsA_in (i := 7) 141 (by rfl) (by rw [hsz]; decide) _ (by decide +kernel) (by decide)
    have f7 : x 7 = .int .i64 E := hd 7 (by decide)
    rw [f7] at e141
    clear hA hd h3 h4 h6
    refine wpOp_step rfl (fun K' hK' => ?_)
    go_simp
    exact hK' _ _ (hK _ hI)
set_option maxRecDepth 100000 in
set_option maxHeartbeats 8000000 in
theorem st24b {w : World} {g gr q : Nat} {d2 : Dk} {N2 M2 N3 : Nat} {xk xf xp xn xc : Int} {xs : ByteArray} {xA : Option Addr} {xkc : Nat} {xks : List Bool} {Q : Exit → Act → World → Prop} (ops : Array Oper) (hops : findF Try.f4 24 = some ops) (a0 : Act) (hsz : a0.tmps.size = 256) (h3 : a0.tmps[3]? = some (.pointer (some ⟨g, 0, none⟩))) (h126 : a0.tmps[126]? = some (.bool false)) (HC3 : Hid (∀ (r : Dk) (M : Nat) (V : World), PlX w g d2 N2 gr r M q (fopC ⟨xk, xf, xp, xn, xc, xs, xA, xkc, xks⟩) V → Calls Try.prog 17 #[.pointer (some ⟨g, 0, none⟩), .int .i64 0, .int .i64 32] V fun e w' => e = .returned (.int .i64 2) ∧ PlX w g d2 N3 gr r M q (fopC ⟨xk, xf, xp, xn, xc, xs, xA, xkc, xks⟩) w')) :
    ∀ i ∈ (13 :: 14 :: 15 :: 16 :: 17 :: []), ∀ b c, (i = 15 → b = true) → (i = 99 → c = true) → ∀ x W, (∀ dd ∈ (fun i => match i with | 14 => [13] | 15 => [13, 14] | 16 => [13, 15] | 17 => [13, 16] | _ => []) i, x dd = (fun i => match i with | 13 => (.bool false : Value) | 14 => (.pointer (some ⟨g, 0, none⟩) : Value) | 15 => (.int .i64 2 : Value) | 16 => (.bool false : Value) | 17 => (.bool false : Value) | _ => undef) dd) → (fun b c W => PlX w g d2 (if b then N2 else N3) gr d2 M2 q (fopC ⟨xk, xf, xp, xn, xc, xs, xA, xkc, xks⟩) W) b c W → ∀ K : Act → World → Prop, (∀ w', (fun b c W => PlX w g d2 (if b then N2 else N3) gr d2 M2 q (fopC ⟨xk, xf, xp, xn, xc, xs, xA, xkc, xks⟩) W) (if i = 15 then false else b) (if i = 99 then false else c) w' → K ((putsA ops a0 x (13 :: 14 :: 15 :: 16 :: 17 :: [])).put (dstOf ops i) ((fun i => match i with | 13 => (.bool false : Value) | 14 => (.pointer (some ⟨g, 0, none⟩) : Value) | 15 => (.int .i64 2 : Value) | 16 => (.bool false : Value) | 17 => (.bool false : Value) | _ => undef) i)) w') → wpOp Try.prog ops Q i K (putsA ops a0 x (13 :: 14 :: 15 :: 16 :: 17 :: [])) W := by
  conv at hops => lhs; whnf
  injection hops with hops
  subst hops
  intro i hi b c hpb hqc x W hd hI K hK
  simp only [List.mem_cons, List.not_mem_nil, or_false] at hi
  rcases hi with rfl | rfl | rfl | rfl | rfl
  · generalize hA : putsA _ _ x (13 :: 14 :: 15 :: 16 :: 17 :: []) = A at *
    have e126 : A.tmps[126]? = some (.bool false) := by rw [← hA]; exact (putsA_at 126 _ (by decide +kernel)).trans h126
    clear hA hd h3 h126
    refine wpOp_step rfl (fun K' hK' => ?_)
    go_simp
    exact hK' _ _ (hK _ hI)
  · generalize hA : putsA _ _ x (13 :: 14 :: 15 :: 16 :: 17 :: []) = A at *
    have e3 : A.tmps[3]? = some (.pointer (some ⟨g, 0, none⟩)) := by rw [← hA]; exact (putsA_at 3 _ (by decide +kernel)).trans h3
    have e127 : A.tmps[127]? = some (x 13) := by rw [← hA]; exact putsA_in (i := 13) 127 (by rfl) (by rw [hsz]; decide) _ (by decide +kernel) (by decide)
    have f13 : x 13 = .bool false := hd 13 (by decide)
    rw [f13] at e127
    clear hA hd h3 h126
    refine wpOp_step rfl (fun K' hK' => ?_)
    go_simp
    exact hK' _ _ (hK _ hI)
  · generalize hA : putsA _ _ x (13 :: 14 :: 15 :: 16 :: 17 :: []) = A at *
    have e127 : A.tmps[127]? = some (x 13) := by rw [← hA]; exact putsA_in (i := 13) 127 (by rfl) (by rw [hsz]; decide) _ (by decide +kernel) (by decide)
    have f13 : x 13 = .bool false := hd 13 (by decide)
    rw [f13] at e127
    have e128 : A.tmps[128]? = some (x 14) := by rw [← hA]; exact putsA_in (i := 14) 128 (by rfl) (by rw [hsz]; decide) _ (by decide +kernel) (by decide)
    have f14 : x 14 = .pointer (some ⟨g, 0, none⟩) := hd 14 (by decide)
    rw [f14] at e128
    clear hA hd h3 h126
    obtain rfl : b = true := hpb rfl
    refine wpOp_step rfl (fun K' hK' => ?_)
    go_simp
    refine (HC3.out _ _ W hI).mono ?_
    rintro e w' ⟨rfl, hx⟩
    exact hK' _ _ (hK _ hx)
  · generalize hA : putsA _ _ x (13 :: 14 :: 15 :: 16 :: 17 :: []) = A at *
    have e127 : A.tmps[127]? = some (x 13) := by rw [← hA]; exact putsA_in (i := 13) 127 (by rfl) (by rw [hsz]; decide) _ (by decide +kernel) (by decide)
    have f13 : x 13 = .bool false := hd 13 (by decide)
    rw [f13] at e127
    have e129 : A.tmps[129]? = some (x 15) := by rw [← hA]; exact putsA_in (i := 15) 129 (by rfl) (by rw [hsz]; decide) _ (by decide +kernel) (by decide)
    have f15 : x 15 = .int .i64 2 := hd 15 (by decide)
    rw [f15] at e129
    clear hA hd h3 h126
    refine wpOp_step rfl (fun K' hK' => ?_)
    go_simp
    exact hK' _ _ (hK _ hI)
  · generalize hA : putsA _ _ x (13 :: 14 :: 15 :: 16 :: 17 :: []) = A at *
    have e127 : A.tmps[127]? = some (x 13) := by rw [← hA]; exact putsA_in (i := 13) 127 (by rfl) (by rw [hsz]; decide) _ (by decide +kernel) (by decide)
    have f13 : x 13 = .bool false := hd 13 (by decide)
    rw [f13] at e127
    have e130 : A.tmps[130]? = some (x 16) := by rw [← hA]; exact putsA_in (i := 16) 130 (by rfl) (by rw [hsz]; decide) _ (by decide +kernel) (by decide)
    have f16 : x 16 = .bool false := hd 16 (by decide)
    rw [f16] at e130
    clear hA hd h3 h126
    refine wpOp_step rfl (fun K' hK' => ?_)
    go_simp
    exact hK' _ _ (hK _ hI)
set_option maxRecDepth 100000 in
set_option maxHeartbeats 8000000 in
theorem st24 {w : World} {g gr j q : Nat} {d d2 : Dk} {N2 M2 : Nat} {xk xf xp xn xc : Int} {xs : ByteArray} {xA : Option Addr} {xkc : Nat} {xks : List Bool} {E ER : Int} {Q : Exit → Act → World → Prop} (ops : Array Oper) (hops : findF Try.f4 24 = some ops) (a0 : Act) (hsz : a0.tmps.size = 256) (h3 : a0.tmps[3]? = some (.pointer (some ⟨g, 0, none⟩))) (h4 : a0.tmps[4]? = some (.pointer (some ⟨gr, 0, none⟩))) (h6 : a0.tmps[6]? = some (.pointer (some ⟨q, 0, none⟩))) (HC1 : Hid (∀ (r : Dk) (M : Nat) (V : World), PlX w g d (3 * j) gr r M q (fopC ⟨xk, xf, xp, xn, xc, xs, xA, xkc, xks⟩) V → Calls Try.prog 17 #[.pointer (some ⟨g, 0, none⟩), .int .i64 xn, .int .i64 ER] V fun e w' => e = .returned (.int .i64 E) ∧ PlX w g d2 N2 gr r M q (fopC ⟨xk, xf, xp, xn, xc, xs, xA, xkc, xks⟩) w')) (HC2 : Hid (∀ (r : Dk) (N : Nat) (V : World), PlX w g r N gr d (3 * j) q (fopC ⟨xk, xf, xp, xn, xc, xs, xA, xkc, xks⟩) V → Calls Try.prog 31 #[.pointer (some ⟨gr, 0, none⟩), .int .i64 xn, .int .i64 ER] V fun e w' => e = .returned (.int .i64 E) ∧ PlX w g r N gr d2 M2 q (fopC ⟨xk, xf, xp, xn, xc, xs, xA, xkc, xks⟩) w')) (HCL : Hid (∀ (b c : Bool) (V : World), PlX w g (if b = true then d else d2) (if b = true then 3 * j else N2) gr (if c = true then d else d2) (if c = true then 3 * j else M2) q (fopC ⟨xk, xf, xp, xn, xc, xs, xA, xkc, xks⟩) V → V.cell? ⟨q, 0, none⟩ = some (.int .i64 xk) ∧ V.cell? ⟨q, 1, none⟩ = some (.int .i64 xf) ∧ V.cell? ⟨q, 2, none⟩ = some (.int .i64 xp) ∧ V.cell? ⟨q, 3, none⟩ = some (.int .i64 xn) ∧ V.cell? ⟨q, 4, none⟩ = some (.int .u8 xc) ∧ V.cell? ⟨q, 5, none⟩ = some (.string xs) ∧ V.cell? ⟨q, 6, none⟩ = some (.slice xA xks.length xkc))) (HER : Hid (∀ W, Calls Try.prog 30 #[fopV ⟨xk, xf, xp, xn, xc, xs, xA, xkc, xks⟩] W fun e w' => e = .returned (.int .i64 ER) ∧ Below W.heap.size W w')) :
    ∀ i ∈ (0 :: 1 :: 2 :: 3 :: 4 :: 5 :: 6 :: 7 :: 8 :: 9 :: 10 :: 11 :: 12 :: []), ∀ b c, (i = 5 → b = true) → (i = 11 → c = true) → ∀ x W, (∀ dd ∈ (fun i => match i with | 2 => [1] | 4 => [3] | 5 => [0, 2, 4] | 8 => [7] | 10 => [9] | 11 => [6, 8, 10] | 12 => [5, 11] | _ => []) i, x dd = (fun i => match i with | 0 => (.pointer (some ⟨g, 0, none⟩) : Value) | 1 => (.pointer (some ⟨q, 3, none⟩) : Value) | 2 => (.int .i64 xn : Value) | 3 => (.agg #[.int .i64 xk, .int .i64 xf, .int .i64 xp, .int .i64 xn, .int .u8 xc, .string xs, .slice xA xks.length xkc] : Value) | 4 => (.int .i64 ER : Value) | 5 => (.int .i64 E : Value) | 6 => (.pointer (some ⟨gr, 0, none⟩) : Value) | 7 => (.pointer (some ⟨q, 3, none⟩) : Value) | 8 => (.int .i64 xn : Value) | 9 => (.agg #[.int .i64 xk, .int .i64 xf, .int .i64 xp, .int .i64 xn, .int .u8 xc, .string xs, .slice xA xks.length xkc] : Value) | 10 => (.int .i64 ER : Value) | 11 => (.int .i64 E : Value) | 12 => (.bool false : Value) | _ => undef) dd) → (fun b c W => PlX w g (if b then d else d2) (if b then 3 * j else N2) gr (if c then d else d2) (if c then 3 * j else M2) q (fopC ⟨xk, xf, xp, xn, xc, xs, xA, xkc, xks⟩) W) b c W → ∀ K : Act → World → Prop, (∀ w', (fun b c W => PlX w g (if b then d else d2) (if b then 3 * j else N2) gr (if c then d else d2) (if c then 3 * j else M2) q (fopC ⟨xk, xf, xp, xn, xc, xs, xA, xkc, xks⟩) W) (if i = 5 then false else b) (if i = 11 then false else c) w' → K ((putsA ops a0 x (0 :: 1 :: 2 :: 3 :: 4 :: 5 :: 6 :: 7 :: 8 :: 9 :: 10 :: 11 :: 12 :: [])).put (dstOf ops i) ((fun i => match i with | 0 => (.pointer (some ⟨g, 0, none⟩) : Value) | 1 => (.pointer (some ⟨q, 3, none⟩) : Value) | 2 => (.int .i64 xn : Value) | 3 => (.agg #[.int .i64 xk, .int .i64 xf, .int .i64 xp, .int .i64 xn, .int .u8 xc, .string xs, .slice xA xks.length xkc] : Value) | 4 => (.int .i64 ER : Value) | 5 => (.int .i64 E : Value) | 6 => (.pointer (some ⟨gr, 0, none⟩) : Value) | 7 => (.pointer (some ⟨q, 3, none⟩) : Value) | 8 => (.int .i64 xn : Value) | 9 => (.agg #[.int .i64 xk, .int .i64 xf, .int .i64 xp, .int .i64 xn, .int .u8 xc, .string xs, .slice xA xks.length xkc] : Value) | 10 => (.int .i64 ER : Value) | 11 => (.int .i64 E : Value) | 12 => (.bool false : Value) | _ => undef) i)) w') → wpOp Try.prog ops Q i K (putsA ops a0 x (0 :: 1 :: 2 :: 3 :: 4 :: 5 :: 6 :: 7 :: 8 :: 9 :: 10 :: 11 :: 12 :: [])) W := by
  conv at hops => lhs; whnf
  injection hops with hops
  subst hops
  intro i hi b c hpb hqc x W hd hI K hK
  have hcl := HCL.out b c
  simp only [List.mem_cons, List.not_mem_nil, or_false] at hi
  rcases hi with rfl | rfl | rfl | rfl | rfl | rfl | rfl | rfl | rfl | rfl | rfl | rfl | rfl
  · generalize hA : putsA _ _ x (0 :: 1 :: 2 :: 3 :: 4 :: 5 :: 6 :: 7 :: 8 :: 9 :: 10 :: 11 :: 12 :: []) = A at *
    have e3 : A.tmps[3]? = some (.pointer (some ⟨g, 0, none⟩)) := by rw [← hA]; exact (putsA_at 3 _ (by decide +kernel)).trans h3
    clear hA hd h3 h4 h6
    refine wpOp_step rfl (fun K' hK' => ?_)
    go_simp
    exact hK' _ _ (hK _ hI)
  · generalize hA : putsA _ _ x (0 :: 1 :: 2 :: 3 :: 4 :: 5 :: 6 :: 7 :: 8 :: 9 :: 10 :: 11 :: 12 :: []) = A at *
    have e6 : A.tmps[6]? = some (.pointer (some ⟨q, 0, none⟩)) := by rw [← hA]; exact (putsA_at 6 _ (by decide +kernel)).trans h6
    clear hA hd h3 h4 h6
    refine wpOp_step rfl (fun K' hK' => ?_)
    go_simp
    exact hK' _ _ (hK _ hI)
  · generalize hA : putsA _ _ x (0 :: 1 :: 2 :: 3 :: 4 :: 5 :: 6 :: 7 :: 8 :: 9 :: 10 :: 11 :: 12 :: []) = A at *
    have e115 : A.tmps[115]? = some (x 1) := by rw [← hA]; exact putsA_in (i := 1) 115 (by rfl) (by rw [hsz]; decide) _ (by decide +kernel) (by decide)
    have f1 : x 1 = .pointer (some ⟨q, 3, none⟩) := hd 1 (by decide)
    rw [f1] at e115
    clear hA hd h3 h4 h6
    obtain ⟨c0, c1, c2, c3, c4, c5, c6⟩ := hcl W hI
    refine wpOp_step rfl (fun K' hK' => ?_)
    go_simp
    exact hK' _ _ (hK _ hI)
  · generalize hA : putsA _ _ x (0 :: 1 :: 2 :: 3 :: 4 :: 5 :: 6 :: 7 :: 8 :: 9 :: 10 :: 11 :: 12 :: []) = A at *
    have e6 : A.tmps[6]? = some (.pointer (some ⟨q, 0, none⟩)) := by rw [← hA]; exact (putsA_at 6 _ (by decide +kernel)).trans h6
    clear hA hd h3 h4 h6
    obtain ⟨c0, c1, c2, c3, c4, c5, c6⟩ := hcl W hI
    refine wpOp_step rfl (fun K' hK' => ?_)
    go_simp
    exact hK' _ _ (hK _ hI)
  · generalize hA : putsA _ _ x (0 :: 1 :: 2 :: 3 :: 4 :: 5 :: 6 :: 7 :: 8 :: 9 :: 10 :: 11 :: 12 :: []) = A at *
    have e117 : A.tmps[117]? = some (x 3) := by rw [← hA]; exact putsA_in (i := 3) 117 (by rfl) (by rw [hsz]; decide) _ (by decide +kernel) (by decide)
    have f3 : x 3 = .agg #[.int .i64 xk, .int .i64 xf, .int .i64 xp, .int .i64 xn, .int .u8 xc, .string xs, .slice xA xks.length xkc] := hd 3 (by decide)
    rw [f3] at e117
    clear hA hd h3 h4 h6
    refine wpOp_step rfl (fun K' hK' => ?_)
    go_simp
    refine (HER.out W).mono ?_
    rintro e w' ⟨rfl, hb'⟩
    exact hK' _ _ (hK _ (plx_below hI hb'))
  · generalize hA : putsA _ _ x (0 :: 1 :: 2 :: 3 :: 4 :: 5 :: 6 :: 7 :: 8 :: 9 :: 10 :: 11 :: 12 :: []) = A at *
    have e114 : A.tmps[114]? = some (x 0) := by rw [← hA]; exact putsA_in (i := 0) 114 (by rfl) (by rw [hsz]; decide) _ (by decide +kernel) (by decide)
    have f0 : x 0 = .pointer (some ⟨g, 0, none⟩) := hd 0 (by decide)
    rw [f0] at e114
    have e116 : A.tmps[116]? = some (x 2) := by rw [← hA]; exact putsA_in (i := 2) 116 (by rfl) (by rw [hsz]; decide) _ (by decide +kernel) (by decide)
    have f2 : x 2 = .int .i64 xn := hd 2 (by decide)
    rw [f2] at e116
    have e118 : A.tmps[118]? = some (x 4) := by rw [← hA]; exact putsA_in (i := 4) 118 (by rfl) (by rw [hsz]; decide) _ (by decide +kernel) (by decide)
    have f4 : x 4 = .int .i64 ER := hd 4 (by decide)
    rw [f4] at e118
    clear hA hd h3 h4 h6
    obtain rfl : b = true := hpb rfl
    refine wpOp_step rfl (fun K' hK' => ?_)
    go_simp
    refine (HC1.out _ _ W hI).mono ?_
    rintro e w' ⟨rfl, hx⟩
    exact hK' _ _ (hK _ hx)
  · generalize hA : putsA _ _ x (0 :: 1 :: 2 :: 3 :: 4 :: 5 :: 6 :: 7 :: 8 :: 9 :: 10 :: 11 :: 12 :: []) = A at *
    have e4 : A.tmps[4]? = some (.pointer (some ⟨gr, 0, none⟩)) := by rw [← hA]; exact (putsA_at 4 _ (by decide +kernel)).trans h4
    clear hA hd h3 h4 h6
    refine wpOp_step rfl (fun K' hK' => ?_)
    go_simp
    exact hK' _ _ (hK _ hI)
  · generalize hA : putsA _ _ x (0 :: 1 :: 2 :: 3 :: 4 :: 5 :: 6 :: 7 :: 8 :: 9 :: 10 :: 11 :: 12 :: []) = A at *
    have e6 : A.tmps[6]? = some (.pointer (some ⟨q, 0, none⟩)) := by rw [← hA]; exact (putsA_at 6 _ (by decide +kernel)).trans h6
    clear hA hd h3 h4 h6
    refine wpOp_step rfl (fun K' hK' => ?_)
    go_simp
    exact hK' _ _ (hK _ hI)
  · generalize hA : putsA _ _ x (0 :: 1 :: 2 :: 3 :: 4 :: 5 :: 6 :: 7 :: 8 :: 9 :: 10 :: 11 :: 12 :: []) = A at *
    have e121 : A.tmps[121]? = some (x 7) := by rw [← hA]; exact putsA_in (i := 7) 121 (by rfl) (by rw [hsz]; decide) _ (by decide +kernel) (by decide)
    have f7 : x 7 = .pointer (some ⟨q, 3, none⟩) := hd 7 (by decide)
    rw [f7] at e121
    clear hA hd h3 h4 h6
    obtain ⟨c0, c1, c2, c3, c4, c5, c6⟩ := hcl W hI
    refine wpOp_step rfl (fun K' hK' => ?_)
    go_simp
    exact hK' _ _ (hK _ hI)
  · generalize hA : putsA _ _ x (0 :: 1 :: 2 :: 3 :: 4 :: 5 :: 6 :: 7 :: 8 :: 9 :: 10 :: 11 :: 12 :: []) = A at *
    have e6 : A.tmps[6]? = some (.pointer (some ⟨q, 0, none⟩)) := by rw [← hA]; exact (putsA_at 6 _ (by decide +kernel)).trans h6
    clear hA hd h3 h4 h6
    obtain ⟨c0, c1, c2, c3, c4, c5, c6⟩ := hcl W hI
    refine wpOp_step rfl (fun K' hK' => ?_)
    go_simp
    exact hK' _ _ (hK _ hI)
  · generalize hA : putsA _ _ x (0 :: 1 :: 2 :: 3 :: 4 :: 5 :: 6 :: 7 :: 8 :: 9 :: 10 :: 11 :: 12 :: []) = A at *
    have e123 : A.tmps[123]? = some (x 9) := by rw [← hA]; exact putsA_in (i := 9) 123 (by rfl) (by rw [hsz]; decide) _ (by decide +kernel) (by decide)
    have f9 : x 9 = .agg #[.int .i64 xk, .int .i64 xf, .int .i64 xp, .int .i64 xn, .int .u8 xc, .string xs, .slice xA xks.length xkc] := hd 9 (by decide)
    rw [f9] at e123
    clear hA hd h3 h4 h6
    refine wpOp_step rfl (fun K' hK' => ?_)
    go_simp
    refine (HER.out W).mono ?_
    rintro e w' ⟨rfl, hb'⟩
    exact hK' _ _ (hK _ (plx_below hI hb'))
  · generalize hA : putsA _ _ x (0 :: 1 :: 2 :: 3 :: 4 :: 5 :: 6 :: 7 :: 8 :: 9 :: 10 :: 11 :: 12 :: []) = A at *
    have e120 : A.tmps[120]? = some (x 6) := by rw [← hA]; exact putsA_in (i := 6) 120 (by rfl) (by rw [hsz]; decide) _ (by decide +kernel) (by decide)
    have f6 : x 6 = .pointer (some ⟨gr, 0, none⟩) := hd 6 (by decide)
    rw [f6] at e120
    have e122 : A.tmps[122]? = some (x 8) := by rw [← hA]; exact putsA_in (i := 8) 122 (by rfl) (by rw [hsz]; decide) _ (by decide +kernel) (by decide)
    have f8 : x 8 = .int .i64 xn := hd 8 (by decide)
    rw [f8] at e122
    have e124 : A.tmps[124]? = some (x 10) := by rw [← hA]; exact putsA_in (i := 10) 124 (by rfl) (by rw [hsz]; decide) _ (by decide +kernel) (by decide)
    have f10 : x 10 = .int .i64 ER := hd 10 (by decide)
    rw [f10] at e124
    clear hA hd h3 h4 h6
    obtain rfl : c = true := hqc rfl
    refine wpOp_step rfl (fun K' hK' => ?_)
    go_simp
    refine (HC2.out _ _ W hI).mono ?_
    rintro e w' ⟨rfl, hx⟩
    exact hK' _ _ (hK _ hx)
  · generalize hA : putsA _ _ x (0 :: 1 :: 2 :: 3 :: 4 :: 5 :: 6 :: 7 :: 8 :: 9 :: 10 :: 11 :: 12 :: []) = A at *
    have e119 : A.tmps[119]? = some (x 5) := by rw [← hA]; exact putsA_in (i := 5) 119 (by rfl) (by rw [hsz]; decide) _ (by decide +kernel) (by decide)
    have f5 : x 5 = .int .i64 E := hd 5 (by decide)
    rw [f5] at e119
    have e125 : A.tmps[125]? = some (x 11) := by rw [← hA]; exact putsA_in (i := 11) 125 (by rfl) (by rw [hsz]; decide) _ (by decide +kernel) (by decide)
    have f11 : x 11 = .int .i64 E := hd 11 (by decide)
    rw [f11] at e125
    clear hA hd h3 h4 h6
    refine wpOp_step rfl (fun K' hK' => ?_)
    go_simp
    exact hK' _ _ (hK _ hI)
set_option maxRecDepth 100000 in
set_option maxHeartbeats 8000000 in
theorem st10 {w : World} {g gr j q : Nat} {d d2 : Dk} {N2 M2 : Nat} {xk xf xp xn xc : Int} {xs : ByteArray} {xA : Option Addr} {xkc : Nat} {xks : List Bool} {E PL : Int} {BY : ByteArray} {Q : Exit → Act → World → Prop} (ops : Array Oper) (hops : findF Try.f4 10 = some ops) (a0 : Act) (hsz : a0.tmps.size = 256) (h3 : a0.tmps[3]? = some (.pointer (some ⟨g, 0, none⟩))) (h4 : a0.tmps[4]? = some (.pointer (some ⟨gr, 0, none⟩))) (h6 : a0.tmps[6]? = some (.pointer (some ⟨q, 0, none⟩))) (HC1 : Hid (∀ (r : Dk) (M : Nat) (V : World), PlX w g d (3 * j) gr r M q (fopC ⟨xk, xf, xp, xn, xc, xs, xA, xkc, xks⟩) V → Calls Try.prog 10 #[.pointer (some ⟨g, 0, none⟩), .int .i64 xf, .int .i64 PL, .string BY] V fun e w' => e = .returned (.int .i64 E) ∧ PlX w g d2 N2 gr r M q (fopC ⟨xk, xf, xp, xn, xc, xs, xA, xkc, xks⟩) w')) (HC2 : Hid (∀ (r : Dk) (N : Nat) (V : World), PlX w g r N gr d (3 * j) q (fopC ⟨xk, xf, xp, xn, xc, xs, xA, xkc, xks⟩) V → Calls Try.prog 36 #[.pointer (some ⟨gr, 0, none⟩), .int .i64 xf, .int .i64 PL, .string BY] V fun e w' => e = .returned (.int .i64 E) ∧ PlX w g r N gr d2 M2 q (fopC ⟨xk, xf, xp, xn, xc, xs, xA, xkc, xks⟩) w')) (HCL : Hid (∀ (b c : Bool) (V : World), PlX w g (if b = true then d else d2) (if b = true then 3 * j else N2) gr (if c = true then d else d2) (if c = true then 3 * j else M2) q (fopC ⟨xk, xf, xp, xn, xc, xs, xA, xkc, xks⟩) V → V.cell? ⟨q, 0, none⟩ = some (.int .i64 xk) ∧ V.cell? ⟨q, 1, none⟩ = some (.int .i64 xf) ∧ V.cell? ⟨q, 2, none⟩ = some (.int .i64 xp) ∧ V.cell? ⟨q, 3, none⟩ = some (.int .i64 xn) ∧ V.cell? ⟨q, 4, none⟩ = some (.int .u8 xc) ∧ V.cell? ⟨q, 5, none⟩ = some (.string xs) ∧ V.cell? ⟨q, 6, none⟩ = some (.slice xA xks.length xkc))) (HPL : Hid (∀ W, Calls Try.prog 34 #[fopV ⟨xk, xf, xp, xn, xc, xs, xA, xkc, xks⟩] W fun e w' => e = .returned (.int .i64 PL) ∧ Below W.heap.size W w')) (HBY : Hid (∀ W, Calls Try.prog 35 #[fopV ⟨xk, xf, xp, xn, xc, xs, xA, xkc, xks⟩] W fun e w' => e = .returned (.string BY) ∧ Below W.heap.size W w')) :
    ∀ i ∈ (0 :: 1 :: 2 :: 3 :: 4 :: 5 :: 6 :: 7 :: 8 :: 9 :: 10 :: 11 :: 12 :: 13 :: 14 :: 15 :: 16 :: []), ∀ b c, (i = 7 → b = true) → (i = 15 → c = true) → ∀ x W, (∀ dd ∈ (fun i => match i with | 2 => [1] | 4 => [3] | 6 => [5] | 7 => [0, 2, 4, 6] | 10 => [9] | 12 => [11] | 14 => [13] | 15 => [8, 10, 12, 14] | 16 => [7, 15] | _ => []) i, x dd = (fun i => match i with | 0 => (.pointer (some ⟨g, 0, none⟩) : Value) | 1 => (.pointer (some ⟨q, 1, none⟩) : Value) | 2 => (.int .i64 xf : Value) | 3 => (.agg #[.int .i64 xk, .int .i64 xf, .int .i64 xp, .int .i64 xn, .int .u8 xc, .string xs, .slice xA xks.length xkc] : Value) | 4 => (.int .i64 PL : Value) | 5 => (.agg #[.int .i64 xk, .int .i64 xf, .int .i64 xp, .int .i64 xn, .int .u8 xc, .string xs, .slice xA xks.length xkc] : Value) | 6 => (.string BY : Value) | 7 => (.int .i64 E : Value) | 8 => (.pointer (some ⟨gr, 0, none⟩) : Value) | 9 => (.pointer (some ⟨q, 1, none⟩) : Value) | 10 => (.int .i64 xf : Value) | 11 => (.agg #[.int .i64 xk, .int .i64 xf, .int .i64 xp, .int .i64 xn, .int .u8 xc, .string xs, .slice xA xks.length xkc] : Value) | 12 => (.int .i64 PL : Value) | 13 => (.agg #[.int .i64 xk, .int .i64 xf, .int .i64 xp, .int .i64 xn, .int .u8 xc, .string xs, .slice xA xks.length xkc] : Value) | 14 => (.string BY : Value) | 15 => (.int .i64 E : Value) | 16 => (.bool false : Value) | _ => undef) dd) → (fun b c W => PlX w g (if b then d else d2) (if b then 3 * j else N2) gr (if c then d else d2) (if c then 3 * j else M2) q (fopC ⟨xk, xf, xp, xn, xc, xs, xA, xkc, xks⟩) W) b c W → ∀ K : Act → World → Prop, (∀ w', (fun b c W => PlX w g (if b then d else d2) (if b then 3 * j else N2) gr (if c then d else d2) (if c then 3 * j else M2) q (fopC ⟨xk, xf, xp, xn, xc, xs, xA, xkc, xks⟩) W) (if i = 7 then false else b) (if i = 15 then false else c) w' → K ((putsA ops a0 x (0 :: 1 :: 2 :: 3 :: 4 :: 5 :: 6 :: 7 :: 8 :: 9 :: 10 :: 11 :: 12 :: 13 :: 14 :: 15 :: 16 :: [])).put (dstOf ops i) ((fun i => match i with | 0 => (.pointer (some ⟨g, 0, none⟩) : Value) | 1 => (.pointer (some ⟨q, 1, none⟩) : Value) | 2 => (.int .i64 xf : Value) | 3 => (.agg #[.int .i64 xk, .int .i64 xf, .int .i64 xp, .int .i64 xn, .int .u8 xc, .string xs, .slice xA xks.length xkc] : Value) | 4 => (.int .i64 PL : Value) | 5 => (.agg #[.int .i64 xk, .int .i64 xf, .int .i64 xp, .int .i64 xn, .int .u8 xc, .string xs, .slice xA xks.length xkc] : Value) | 6 => (.string BY : Value) | 7 => (.int .i64 E : Value) | 8 => (.pointer (some ⟨gr, 0, none⟩) : Value) | 9 => (.pointer (some ⟨q, 1, none⟩) : Value) | 10 => (.int .i64 xf : Value) | 11 => (.agg #[.int .i64 xk, .int .i64 xf, .int .i64 xp, .int .i64 xn, .int .u8 xc, .string xs, .slice xA xks.length xkc] : Value) | 12 => (.int .i64 PL : Value) | 13 => (.agg #[.int .i64 xk, .int .i64 xf, .int .i64 xp, .int .i64 xn, .int .u8 xc, .string xs, .slice xA xks.length xkc] : Value) | 14 => (.string BY : Value) | 15 => (.int .i64 E : Value) | 16 => (.bool false : Value) | _ => undef) i)) w') → wpOp Try.prog ops Q i K (putsA ops a0 x (0 :: 1 :: 2 :: 3 :: 4 :: 5 :: 6 :: 7 :: 8 :: 9 :: 10 :: 11 :: 12 :: 13 :: 14 :: 15 :: 16 :: [])) W := by
  conv at hops => lhs; whnf
  injection hops with hops
  subst hops
  intro i hi b c hpb hqc x W hd hI K hK
  have hcl := HCL.out b c
  simp only [List.mem_cons, List.not_mem_nil, or_false] at hi
  rcases hi with rfl | rfl | rfl | rfl | rfl | rfl | rfl | rfl | rfl | rfl | rfl | rfl | rfl | rfl | rfl | rfl | rfl
  · generalize hA : putsA _ _ x (0 :: 1 :: 2 :: 3 :: 4 :: 5 :: 6 :: 7 :: 8 :: 9 :: 10 :: 11 :: 12 :: 13 :: 14 :: 15 :: 16 :: []) = A at *
    have e3 : A.tmps[3]? = some (.pointer (some ⟨g, 0, none⟩)) := by rw [← hA]; exact (putsA_at 3 _ (by decide +kernel)).trans h3
    clear hA hd h3 h4 h6
    refine wpOp_step rfl (fun K' hK' => ?_)
    go_simp
    exact hK' _ _ (hK _ hI)
  · generalize hA : putsA _ _ x (0 :: 1 :: 2 :: 3 :: 4 :: 5 :: 6 :: 7 :: 8 :: 9 :: 10 :: 11 :: 12 :: 13 :: 14 :: 15 :: 16 :: []) = A at *
    have e6 : A.tmps[6]? = some (.pointer (some ⟨q, 0, none⟩)) := by rw [← hA]; exact (putsA_at 6 _ (by decide +kernel)).trans h6
    clear hA hd h3 h4 h6
    refine wpOp_step rfl (fun K' hK' => ?_)
    go_simp
    exact hK' _ _ (hK _ hI)
  · generalize hA : putsA _ _ x (0 :: 1 :: 2 :: 3 :: 4 :: 5 :: 6 :: 7 :: 8 :: 9 :: 10 :: 11 :: 12 :: 13 :: 14 :: 15 :: 16 :: []) = A at *
    have e38 : A.tmps[38]? = some (x 1) := by rw [← hA]; exact putsA_in (i := 1) 38 (by rfl) (by rw [hsz]; decide) _ (by decide +kernel) (by decide)
    have f1 : x 1 = .pointer (some ⟨q, 1, none⟩) := hd 1 (by decide)
    rw [f1] at e38
    clear hA hd h3 h4 h6
    obtain ⟨c0, c1, c2, c3, c4, c5, c6⟩ := hcl W hI
    refine wpOp_step rfl (fun K' hK' => ?_)
    go_simp
    exact hK' _ _ (hK _ hI)
  · generalize hA : putsA _ _ x (0 :: 1 :: 2 :: 3 :: 4 :: 5 :: 6 :: 7 :: 8 :: 9 :: 10 :: 11 :: 12 :: 13 :: 14 :: 15 :: 16 :: []) = A at *
    have e6 : A.tmps[6]? = some (.pointer (some ⟨q, 0, none⟩)) := by rw [← hA]; exact (putsA_at 6 _ (by decide +kernel)).trans h6
    clear hA hd h3 h4 h6
    obtain ⟨c0, c1, c2, c3, c4, c5, c6⟩ := hcl W hI
    refine wpOp_step rfl (fun K' hK' => ?_)
    go_simp
    exact hK' _ _ (hK _ hI)
  · generalize hA : putsA _ _ x (0 :: 1 :: 2 :: 3 :: 4 :: 5 :: 6 :: 7 :: 8 :: 9 :: 10 :: 11 :: 12 :: 13 :: 14 :: 15 :: 16 :: []) = A at *
    have e40 : A.tmps[40]? = some (x 3) := by rw [← hA]; exact putsA_in (i := 3) 40 (by rfl) (by rw [hsz]; decide) _ (by decide +kernel) (by decide)
    have f3 : x 3 = .agg #[.int .i64 xk, .int .i64 xf, .int .i64 xp, .int .i64 xn, .int .u8 xc, .string xs, .slice xA xks.length xkc] := hd 3 (by decide)
    rw [f3] at e40
    clear hA hd h3 h4 h6
    refine wpOp_step rfl (fun K' hK' => ?_)
    go_simp
    refine (HPL.out W).mono ?_
    rintro e w' ⟨rfl, hb'⟩
    exact hK' _ _ (hK _ (plx_below hI hb'))
  · generalize hA : putsA _ _ x (0 :: 1 :: 2 :: 3 :: 4 :: 5 :: 6 :: 7 :: 8 :: 9 :: 10 :: 11 :: 12 :: 13 :: 14 :: 15 :: 16 :: []) = A at *
    have e6 : A.tmps[6]? = some (.pointer (some ⟨q, 0, none⟩)) := by rw [← hA]; exact (putsA_at 6 _ (by decide +kernel)).trans h6
    clear hA hd h3 h4 h6
    obtain ⟨c0, c1, c2, c3, c4, c5, c6⟩ := hcl W hI
    refine wpOp_step rfl (fun K' hK' => ?_)
    go_simp
    exact hK' _ _ (hK _ hI)
  · generalize hA : putsA _ _ x (0 :: 1 :: 2 :: 3 :: 4 :: 5 :: 6 :: 7 :: 8 :: 9 :: 10 :: 11 :: 12 :: 13 :: 14 :: 15 :: 16 :: []) = A at *
    have e42 : A.tmps[42]? = some (x 5) := by rw [← hA]; exact putsA_in (i := 5) 42 (by rfl) (by rw [hsz]; decide) _ (by decide +kernel) (by decide)
    have f5 : x 5 = .agg #[.int .i64 xk, .int .i64 xf, .int .i64 xp, .int .i64 xn, .int .u8 xc, .string xs, .slice xA xks.length xkc] := hd 5 (by decide)
    rw [f5] at e42
    clear hA hd h3 h4 h6
    refine wpOp_step rfl (fun K' hK' => ?_)
    go_simp
    refine (HBY.out W).mono ?_
    rintro e w' ⟨rfl, hb'⟩
    exact hK' _ _ (hK _ (plx_below hI hb'))
  · generalize hA : putsA _ _ x (0 :: 1 :: 2 :: 3 :: 4 :: 5 :: 6 :: 7 :: 8 :: 9 :: 10 :: 11 :: 12 :: 13 :: 14 :: 15 :: 16 :: []) = A at *
    have e37 : A.tmps[37]? = some (x 0) := by rw [← hA]; exact putsA_in (i := 0) 37 (by rfl) (by rw [hsz]; decide) _ (by decide +kernel) (by decide)
    have f0 : x 0 = .pointer (some ⟨g, 0, none⟩) := hd 0 (by decide)
    rw [f0] at e37
    have e39 : A.tmps[39]? = some (x 2) := by rw [← hA]; exact putsA_in (i := 2) 39 (by rfl) (by rw [hsz]; decide) _ (by decide +kernel) (by decide)
    have f2 : x 2 = .int .i64 xf := hd 2 (by decide)
    rw [f2] at e39
    have e41 : A.tmps[41]? = some (x 4) := by rw [← hA]; exact putsA_in (i := 4) 41 (by rfl) (by rw [hsz]; decide) _ (by decide +kernel) (by decide)
    have f4 : x 4 = .int .i64 PL := hd 4 (by decide)
    rw [f4] at e41
    have e43 : A.tmps[43]? = some (x 6) := by rw [← hA]; exact putsA_in (i := 6) 43 (by rfl) (by rw [hsz]; decide) _ (by decide +kernel) (by decide)
    have f6 : x 6 = .string BY := hd 6 (by decide)
    rw [f6] at e43
    clear hA hd h3 h4 h6
    obtain rfl : b = true := hpb rfl
    refine wpOp_step rfl (fun K' hK' => ?_)
    go_simp
    refine (HC1.out _ _ W hI).mono ?_
    rintro e w' ⟨rfl, hx⟩
    exact hK' _ _ (hK _ hx)
  · generalize hA : putsA _ _ x (0 :: 1 :: 2 :: 3 :: 4 :: 5 :: 6 :: 7 :: 8 :: 9 :: 10 :: 11 :: 12 :: 13 :: 14 :: 15 :: 16 :: []) = A at *
    have e4 : A.tmps[4]? = some (.pointer (some ⟨gr, 0, none⟩)) := by rw [← hA]; exact (putsA_at 4 _ (by decide +kernel)).trans h4
    clear hA hd h3 h4 h6
    refine wpOp_step rfl (fun K' hK' => ?_)
    go_simp
    exact hK' _ _ (hK _ hI)
  · generalize hA : putsA _ _ x (0 :: 1 :: 2 :: 3 :: 4 :: 5 :: 6 :: 7 :: 8 :: 9 :: 10 :: 11 :: 12 :: 13 :: 14 :: 15 :: 16 :: []) = A at *
    have e6 : A.tmps[6]? = some (.pointer (some ⟨q, 0, none⟩)) := by rw [← hA]; exact (putsA_at 6 _ (by decide +kernel)).trans h6
    clear hA hd h3 h4 h6
    refine wpOp_step rfl (fun K' hK' => ?_)
    go_simp
    exact hK' _ _ (hK _ hI)
  · generalize hA : putsA _ _ x (0 :: 1 :: 2 :: 3 :: 4 :: 5 :: 6 :: 7 :: 8 :: 9 :: 10 :: 11 :: 12 :: 13 :: 14 :: 15 :: 16 :: []) = A at *
    have e46 : A.tmps[46]? = some (x 9) := by rw [← hA]; exact putsA_in (i := 9) 46 (by rfl) (by rw [hsz]; decide) _ (by decide +kernel) (by decide)
    have f9 : x 9 = .pointer (some ⟨q, 1, none⟩) := hd 9 (by decide)
    rw [f9] at e46
    clear hA hd h3 h4 h6
    obtain ⟨c0, c1, c2, c3, c4, c5, c6⟩ := hcl W hI
    refine wpOp_step rfl (fun K' hK' => ?_)
    go_simp
    exact hK' _ _ (hK _ hI)
  · generalize hA : putsA _ _ x (0 :: 1 :: 2 :: 3 :: 4 :: 5 :: 6 :: 7 :: 8 :: 9 :: 10 :: 11 :: 12 :: 13 :: 14 :: 15 :: 16 :: []) = A at *
    have e6 : A.tmps[6]? = some (.pointer (some ⟨q, 0, none⟩)) := by rw [← hA]; exact (putsA_at 6 _ (by decide +kernel)).trans h6
    clear hA hd h3 h4 h6
    obtain ⟨c0, c1, c2, c3, c4, c5, c6⟩ := hcl W hI
    refine wpOp_step rfl (fun K' hK' => ?_)
    go_simp
    exact hK' _ _ (hK _ hI)
  · generalize hA : putsA _ _ x (0 :: 1 :: 2 :: 3 :: 4 :: 5 :: 6 :: 7 :: 8 :: 9 :: 10 :: 11 :: 12 :: 13 :: 14 :: 15 :: 16 :: []) = A at *
    have e48 : A.tmps[48]? = some (x 11) := by rw [← hA]; exact putsA_in (i := 11) 48 (by rfl) (by rw [hsz]; decide) _ (by decide +kernel) (by decide)
    have f11 : x 11 = .agg #[.int .i64 xk, .int .i64 xf, .int .i64 xp, .int .i64 xn, .int .u8 xc, .string xs, .slice xA xks.length xkc] := hd 11 (by decide)
    rw [f11] at e48
    clear hA hd h3 h4 h6
    refine wpOp_step rfl (fun K' hK' => ?_)
    go_simp
    refine (HPL.out W).mono ?_
    rintro e w' ⟨rfl, hb'⟩
    exact hK' _ _ (hK _ (plx_below hI hb'))
  · generalize hA : putsA _ _ x (0 :: 1 :: 2 :: 3 :: 4 :: 5 :: 6 :: 7 :: 8 :: 9 :: 10 :: 11 :: 12 :: 13 :: 14 :: 15 :: 16 :: []) = A at *
    have e6 : A.tmps[6]? = some (.pointer (some ⟨q, 0, none⟩)) := by rw [← hA]; exact (putsA_at 6 _ (by decide +kernel)).trans h6
    clear hA hd h3 h4 h6
    obtain ⟨c0, c1, c2, c3, c4, c5, c6⟩ := hcl W hI
    refine wpOp_step rfl (fun K' hK' => ?_)
    go_simp
    exact hK' _ _ (hK _ hI)
  · generalize hA : putsA _ _ x (0 :: 1 :: 2 :: 3 :: 4 :: 5 :: 6 :: 7 :: 8 :: 9 :: 10 :: 11 :: 12 :: 13 :: 14 :: 15 :: 16 :: []) = A at *
    have e50 : A.tmps[50]? = some (x 13) := by rw [← hA]; exact putsA_in (i := 13) 50 (by rfl) (by rw [hsz]; decide) _ (by decide +kernel) (by decide)
    have f13 : x 13 = .agg #[.int .i64 xk, .int .i64 xf, .int .i64 xp, .int .i64 xn, .int .u8 xc, .string xs, .slice xA xks.length xkc] := hd 13 (by decide)
    rw [f13] at e50
    clear hA hd h3 h4 h6
    refine wpOp_step rfl (fun K' hK' => ?_)
    go_simp
    refine (HBY.out W).mono ?_
    rintro e w' ⟨rfl, hb'⟩
    exact hK' _ _ (hK _ (plx_below hI hb'))
  · generalize hA : putsA _ _ x (0 :: 1 :: 2 :: 3 :: 4 :: 5 :: 6 :: 7 :: 8 :: 9 :: 10 :: 11 :: 12 :: 13 :: 14 :: 15 :: 16 :: []) = A at *
    have e45 : A.tmps[45]? = some (x 8) := by rw [← hA]; exact putsA_in (i := 8) 45 (by rfl) (by rw [hsz]; decide) _ (by decide +kernel) (by decide)
    have f8 : x 8 = .pointer (some ⟨gr, 0, none⟩) := hd 8 (by decide)
    rw [f8] at e45
    have e47 : A.tmps[47]? = some (x 10) := by rw [← hA]; exact putsA_in (i := 10) 47 (by rfl) (by rw [hsz]; decide) _ (by decide +kernel) (by decide)
    have f10 : x 10 = .int .i64 xf := hd 10 (by decide)
    rw [f10] at e47
    have e49 : A.tmps[49]? = some (x 12) := by rw [← hA]; exact putsA_in (i := 12) 49 (by rfl) (by rw [hsz]; decide) _ (by decide +kernel) (by decide)
    have f12 : x 12 = .int .i64 PL := hd 12 (by decide)
    rw [f12] at e49
    have e51 : A.tmps[51]? = some (x 14) := by rw [← hA]; exact putsA_in (i := 14) 51 (by rfl) (by rw [hsz]; decide) _ (by decide +kernel) (by decide)
    have f14 : x 14 = .string BY := hd 14 (by decide)
    rw [f14] at e51
    clear hA hd h3 h4 h6
    obtain rfl : c = true := hqc rfl
    refine wpOp_step rfl (fun K' hK' => ?_)
    go_simp
    refine (HC2.out _ _ W hI).mono ?_
    rintro e w' ⟨rfl, hx⟩
    exact hK' _ _ (hK _ hx)
  · generalize hA : putsA _ _ x (0 :: 1 :: 2 :: 3 :: 4 :: 5 :: 6 :: 7 :: 8 :: 9 :: 10 :: 11 :: 12 :: 13 :: 14 :: 15 :: 16 :: []) = A at *
    have e44 : A.tmps[44]? = some (x 7) := by rw [← hA]; exact putsA_in (i := 7) 44 (by rfl) (by rw [hsz]; decide) _ (by decide +kernel) (by decide)
    have f7 : x 7 = .int .i64 E := hd 7 (by decide)
    rw [f7] at e44
    have e52 : A.tmps[52]? = some (x 15) := by rw [← hA]; exact putsA_in (i := 15) 52 (by rfl) (by rw [hsz]; decide) _ (by decide +kernel) (by decide)
    have f15 : x 15 = .int .i64 E := hd 15 (by decide)
    rw [f15] at e52
    clear hA hd h3 h4 h6
    refine wpOp_step rfl (fun K' hK' => ?_)
    go_simp
    exact hK' _ _ (hK _ hI)
set_option maxRecDepth 100000 in
set_option maxHeartbeats 8000000 in
theorem st38 {w : World} {g gr j : Nat} {d3 : Dk} {OP : Int} {OF : Bool} {LO LC : Nat} {LA : Option Addr} {Q : Exit → Act → World → Prop} (ops : Array Oper) (hops : findF Try.f4 38 = some ops) (a0 : Act) (hsz : a0.tmps.size = 256) (h3 : a0.tmps[3]? = some (.pointer (some ⟨g, 0, none⟩))) (h4 : a0.tmps[4]? = some (.pointer (some ⟨gr, 0, none⟩))) (HRC : Hid (∀ V, (Pl w g d3 (3 * (j + 1)) gr d3 (3 * (j + 1)) V ∧ V.cell? ⟨gr, 16, none⟩ = some (.slice LA LO LC)) → V.cell? ⟨gr, 20, none⟩ = some (.bool OF) ∧ V.cell? ⟨gr, 18, none⟩ = some (.int .i64 OP) ∧ V.cell? ⟨gr, 16, none⟩ = some (.slice LA LO LC))) (HON : Hid (∀ V, (Pl w g d3 (3 * (j + 1)) gr d3 (3 * (j + 1)) V ∧ V.cell? ⟨gr, 16, none⟩ = some (.slice LA LO LC)) → Calls Try.prog 21 #[.pointer (some ⟨g, 0, none⟩)] V fun e w' => e = .returned (.bool !OF) ∧ V = w')) (HOP : Hid (∀ V, (Pl w g d3 (3 * (j + 1)) gr d3 (3 * (j + 1)) V ∧ V.cell? ⟨gr, 16, none⟩ = some (.slice LA LO LC)) → Calls Try.prog 19 #[.pointer (some ⟨g, 0, none⟩)] V fun e w' => e = .returned (.int .i64 OP) ∧ V = w')) (HLO : Hid (∀ V, (Pl w g d3 (3 * (j + 1)) gr d3 (3 * (j + 1)) V ∧ V.cell? ⟨gr, 16, none⟩ = some (.slice LA LO LC)) → Calls Try.prog 15 #[.pointer (some ⟨g, 0, none⟩)] V fun e w' => e = .returned (.int .i64 (LO : Nat)) ∧ V = w')) (HS1 : Hid (∀ V, (Pl w g d3 (3 * (j + 1)) gr d3 (3 * (j + 1)) V ∧ V.cell? ⟨gr, 16, none⟩ = some (.slice LA LO LC)) → Calls Try.prog 12 #[.pointer (some ⟨g, 0, none⟩), .int .i64 (-1)] V fun e w' => e = .returned (.int .i64 0) ∧ V = w')) (HS8 : Hid (∀ V, (Pl w g d3 (3 * (j + 1)) gr d3 (3 * (j + 1)) V ∧ V.cell? ⟨gr, 16, none⟩ = some (.slice LA LO LC)) → Calls Try.prog 12 #[.pointer (some ⟨g, 0, none⟩), .int .i64 8] V fun e w' => e = .returned (.int .i64 0) ∧ V = w')) :
    ∀ i ∈ (0 :: 1 :: 2 :: 3 :: 4 :: 5 :: 6 :: 7 :: 8 :: 9 :: 10 :: 11 :: 12 :: 13 :: 14 :: 15 :: 16 :: 17 :: 18 :: 19 :: 20 :: 21 :: 22 :: 23 :: 24 :: 25 :: 26 :: 27 :: 28 :: 29 :: 30 :: 31 :: 32 :: 33 :: []), ∀ b c, (i = 99 → b = true) → (i = 99 → c = true) → ∀ x W, (∀ dd ∈ (fun i => match i with | 1 => [0] | 3 => [2] | 4 => [3] | 5 => [4] | 6 => [1, 5] | 7 => [6] | 8 => [7] | 9 => [7, 8] | 10 => [7] | 11 => [7, 10] | 12 => [7, 11] | 13 => [7, 12] | 14 => [7, 9, 13] | 15 => [7, 14] | 16 => [15] | 17 => [16] | 18 => [16, 17] | 19 => [16] | 20 => [16, 19] | 21 => [16, 20] | 22 => [16, 21] | 23 => [16, 22] | 24 => [16, 18, 23] | 25 => [16, 24] | 26 => [25] | 27 => [26] | 28 => [26, 27] | 29 => [26] | 30 => [26, 29] | 31 => [26, 28, 30] | 32 => [26, 31] | 33 => [26, 32] | _ => []) i, x dd = (fun i => match i with | 0 => (.pointer (some ⟨g, 0, none⟩) : Value) | 1 => (.bool (!OF) : Value) | 2 => (.pointer (some ⟨gr, 0, none⟩) : Value) | 3 => (.pointer (some ⟨gr, 0, none⟩) : Value) | 4 => (.pointer (some ⟨gr, 20, none⟩) : Value) | 5 => (.bool OF : Value) | 6 => (.bool false : Value) | 7 => (.bool false : Value) | 8 => (.pointer (some ⟨g, 0, none⟩) : Value) | 9 => (.int .i64 OP : Value) | 10 => (.pointer (some ⟨gr, 0, none⟩) : Value) | 11 => (.pointer (some ⟨gr, 0, none⟩) : Value) | 12 => (.pointer (some ⟨gr, 18, none⟩) : Value) | 13 => (.int .i64 OP : Value) | 14 => (.bool false : Value) | 15 => (.bool false : Value) | 16 => (.bool false : Value) | 17 => (.pointer (some ⟨g, 0, none⟩) : Value) | 18 => (.int .i64 (LO : Nat) : Value) | 19 => (.pointer (some ⟨gr, 0, none⟩) : Value) | 20 => (.pointer (some ⟨gr, 0, none⟩) : Value) | 21 => (.pointer (some ⟨gr, 16, none⟩) : Value) | 22 => (.slice LA LO LC : Value) | 23 => (.int .i64 (LO : Nat) : Value) | 24 => (.bool false : Value) | 25 => (.bool false : Value) | 26 => (.bool false : Value) | 27 => (.pointer (some ⟨g, 0, none⟩) : Value) | 28 => (.int .i64 0 : Value) | 29 => (.pointer (some ⟨g, 0, none⟩) : Value) | 30 => (.int .i64 0 : Value) | 31 => (.int .i64 0 : Value) | 32 => (.bool false : Value) | 33 => (.bool false : Value) | _ => undef) dd) → (fun _ _ W => Pl w g d3 (3 * (j + 1)) gr d3 (3 * (j + 1)) W ∧ W.cell? ⟨gr, 16, none⟩ = some (.slice LA LO LC)) b c W → ∀ K : Act → World → Prop, (∀ w', (fun _ _ W => Pl w g d3 (3 * (j + 1)) gr d3 (3 * (j + 1)) W ∧ W.cell? ⟨gr, 16, none⟩ = some (.slice LA LO LC)) (if i = 99 then false else b) (if i = 99 then false else c) w' → K ((putsA ops a0 x (0 :: 1 :: 2 :: 3 :: 4 :: 5 :: 6 :: 7 :: 8 :: 9 :: 10 :: 11 :: 12 :: 13 :: 14 :: 15 :: 16 :: 17 :: 18 :: 19 :: 20 :: 21 :: 22 :: 23 :: 24 :: 25 :: 26 :: 27 :: 28 :: 29 :: 30 :: 31 :: 32 :: 33 :: [])).put (dstOf ops i) ((fun i => match i with | 0 => (.pointer (some ⟨g, 0, none⟩) : Value) | 1 => (.bool (!OF) : Value) | 2 => (.pointer (some ⟨gr, 0, none⟩) : Value) | 3 => (.pointer (some ⟨gr, 0, none⟩) : Value) | 4 => (.pointer (some ⟨gr, 20, none⟩) : Value) | 5 => (.bool OF : Value) | 6 => (.bool false : Value) | 7 => (.bool false : Value) | 8 => (.pointer (some ⟨g, 0, none⟩) : Value) | 9 => (.int .i64 OP : Value) | 10 => (.pointer (some ⟨gr, 0, none⟩) : Value) | 11 => (.pointer (some ⟨gr, 0, none⟩) : Value) | 12 => (.pointer (some ⟨gr, 18, none⟩) : Value) | 13 => (.int .i64 OP : Value) | 14 => (.bool false : Value) | 15 => (.bool false : Value) | 16 => (.bool false : Value) | 17 => (.pointer (some ⟨g, 0, none⟩) : Value) | 18 => (.int .i64 (LO : Nat) : Value) | 19 => (.pointer (some ⟨gr, 0, none⟩) : Value) | 20 => (.pointer (some ⟨gr, 0, none⟩) : Value) | 21 => (.pointer (some ⟨gr, 16, none⟩) : Value) | 22 => (.slice LA LO LC : Value) | 23 => (.int .i64 (LO : Nat) : Value) | 24 => (.bool false : Value) | 25 => (.bool false : Value) | 26 => (.bool false : Value) | 27 => (.pointer (some ⟨g, 0, none⟩) : Value) | 28 => (.int .i64 0 : Value) | 29 => (.pointer (some ⟨g, 0, none⟩) : Value) | 30 => (.int .i64 0 : Value) | 31 => (.int .i64 0 : Value) | 32 => (.bool false : Value) | 33 => (.bool false : Value) | _ => undef) i)) w') → wpOp Try.prog ops Q i K (putsA ops a0 x (0 :: 1 :: 2 :: 3 :: 4 :: 5 :: 6 :: 7 :: 8 :: 9 :: 10 :: 11 :: 12 :: 13 :: 14 :: 15 :: 16 :: 17 :: 18 :: 19 :: 20 :: 21 :: 22 :: 23 :: 24 :: 25 :: 26 :: 27 :: 28 :: 29 :: 30 :: 31 :: 32 :: 33 :: [])) W := by
  conv at hops => lhs; whnf
  injection hops with hops
  subst hops
  intro i hi b c hpb hqc x W hd hI K hK
  simp only [List.mem_cons, List.not_mem_nil, or_false] at hi
  rcases hi with rfl | rfl | rfl | rfl | rfl | rfl | rfl | rfl | rfl | rfl | rfl | rfl | rfl | rfl | rfl | rfl | rfl | rfl | rfl | rfl | rfl | rfl | rfl | rfl | rfl | rfl | rfl | rfl | rfl | rfl | rfl | rfl | rfl | rfl
  · generalize hA : putsA _ _ x (0 :: 1 :: 2 :: 3 :: 4 :: 5 :: 6 :: 7 :: 8 :: 9 :: 10 :: 11 :: 12 :: 13 :: 14 :: 15 :: 16 :: 17 :: 18 :: 19 :: 20 :: 21 :: 22 :: 23 :: 24 :: 25 :: 26 :: 27 :: 28 :: 29 :: 30 :: 31 :: 32 :: 33 :: []) = A at *
    have e3 : A.tmps[3]? = some (.pointer (some ⟨g, 0, none⟩)) := by rw [← hA]; exact (putsA_at 3 _ (by decide +kernel)).trans h3
    clear hA hd h3 h4
    refine wpOp_step rfl (fun K' hK' => ?_)
    go_simp
    exact hK' _ _ (hK _ hI)
  · generalize hA : putsA _ _ x (0 :: 1 :: 2 :: 3 :: 4 :: 5 :: 6 :: 7 :: 8 :: 9 :: 10 :: 11 :: 12 :: 13 :: 14 :: 15 :: 16 :: 17 :: 18 :: 19 :: 20 :: 21 :: 22 :: 23 :: 24 :: 25 :: 26 :: 27 :: 28 :: 29 :: 30 :: 31 :: 32 :: 33 :: []) = A at *
    have e172 : A.tmps[172]? = some (x 0) := by rw [← hA]; exact putsA_in (i := 0) 172 (by rfl) (by rw [hsz]; decide) _ (by decide +kernel) (by decide)
    have f0 : x 0 = .pointer (some ⟨g, 0, none⟩) := hd 0 (by decide)
    rw [f0] at e172
    clear hA hd h3 h4
    refine wpOp_step rfl (fun K' hK' => ?_)
    go_simp
    refine (HON.out W hI).mono ?_
    rintro e w' ⟨rfl, rfl⟩
    exact hK' _ _ (hK _ hI)
  · generalize hA : putsA _ _ x (0 :: 1 :: 2 :: 3 :: 4 :: 5 :: 6 :: 7 :: 8 :: 9 :: 10 :: 11 :: 12 :: 13 :: 14 :: 15 :: 16 :: 17 :: 18 :: 19 :: 20 :: 21 :: 22 :: 23 :: 24 :: 25 :: 26 :: 27 :: 28 :: 29 :: 30 :: 31 :: 32 :: 33 :: []) = A at *
    have e4 : A.tmps[4]? = some (.pointer (some ⟨gr, 0, none⟩)) := by rw [← hA]; exact (putsA_at 4 _ (by decide +kernel)).trans h4
    clear hA hd h3 h4
    refine wpOp_step rfl (fun K' hK' => ?_)
    go_simp
    exact hK' _ _ (hK _ hI)
  · generalize hA : putsA _ _ x (0 :: 1 :: 2 :: 3 :: 4 :: 5 :: 6 :: 7 :: 8 :: 9 :: 10 :: 11 :: 12 :: 13 :: 14 :: 15 :: 16 :: 17 :: 18 :: 19 :: 20 :: 21 :: 22 :: 23 :: 24 :: 25 :: 26 :: 27 :: 28 :: 29 :: 30 :: 31 :: 32 :: 33 :: []) = A at *
    have e174 : A.tmps[174]? = some (x 2) := by rw [← hA]; exact putsA_in (i := 2) 174 (by rfl) (by rw [hsz]; decide) _ (by decide +kernel) (by decide)
    have f2 : x 2 = .pointer (some ⟨gr, 0, none⟩) := hd 2 (by decide)
    rw [f2] at e174
    clear hA hd h3 h4
    refine wpOp_step rfl (fun K' hK' => ?_)
    go_simp
    exact hK' _ _ (hK _ hI)
  · generalize hA : putsA _ _ x (0 :: 1 :: 2 :: 3 :: 4 :: 5 :: 6 :: 7 :: 8 :: 9 :: 10 :: 11 :: 12 :: 13 :: 14 :: 15 :: 16 :: 17 :: 18 :: 19 :: 20 :: 21 :: 22 :: 23 :: 24 :: 25 :: 26 :: 27 :: 28 :: 29 :: 30 :: 31 :: 32 :: 33 :: []) = A at *
    have e175 : A.tmps[175]? = some (x 3) := by rw [← hA]; exact putsA_in (i := 3) 175 (by rfl) (by rw [hsz]; decide) _ (by decide +kernel) (by decide)
    have f3 : x 3 = .pointer (some ⟨gr, 0, none⟩) := hd 3 (by decide)
    rw [f3] at e175
    clear hA hd h3 h4
    refine wpOp_step rfl (fun K' hK' => ?_)
    go_simp
    exact hK' _ _ (hK _ hI)
  · generalize hA : putsA _ _ x (0 :: 1 :: 2 :: 3 :: 4 :: 5 :: 6 :: 7 :: 8 :: 9 :: 10 :: 11 :: 12 :: 13 :: 14 :: 15 :: 16 :: 17 :: 18 :: 19 :: 20 :: 21 :: 22 :: 23 :: 24 :: 25 :: 26 :: 27 :: 28 :: 29 :: 30 :: 31 :: 32 :: 33 :: []) = A at *
    have e176 : A.tmps[176]? = some (x 4) := by rw [← hA]; exact putsA_in (i := 4) 176 (by rfl) (by rw [hsz]; decide) _ (by decide +kernel) (by decide)
    have f4 : x 4 = .pointer (some ⟨gr, 20, none⟩) := hd 4 (by decide)
    rw [f4] at e176
    clear hA hd h3 h4
    obtain ⟨c20, c18, c16⟩ := HRC.out W hI
    refine wpOp_step rfl (fun K' hK' => ?_)
    go_simp
    exact hK' _ _ (hK _ hI)
  · generalize hA : putsA _ _ x (0 :: 1 :: 2 :: 3 :: 4 :: 5 :: 6 :: 7 :: 8 :: 9 :: 10 :: 11 :: 12 :: 13 :: 14 :: 15 :: 16 :: 17 :: 18 :: 19 :: 20 :: 21 :: 22 :: 23 :: 24 :: 25 :: 26 :: 27 :: 28 :: 29 :: 30 :: 31 :: 32 :: 33 :: []) = A at *
    have e173 : A.tmps[173]? = some (x 1) := by rw [← hA]; exact putsA_in (i := 1) 173 (by rfl) (by rw [hsz]; decide) _ (by decide +kernel) (by decide)
    have f1 : x 1 = .bool (!OF) := hd 1 (by decide)
    rw [f1] at e173
    have e177 : A.tmps[177]? = some (x 5) := by rw [← hA]; exact putsA_in (i := 5) 177 (by rfl) (by rw [hsz]; decide) _ (by decide +kernel) (by decide)
    have f5 : x 5 = .bool OF := hd 5 (by decide)
    rw [f5] at e177
    clear hA hd h3 h4
    cases OF
    · refine wpOp_step rfl (fun K' hK' => ?_)
      go_simp
      exact hK' _ _ (hK _ hI)
    · refine wpOp_step rfl (fun K' hK' => ?_)
      go_simp
      exact hK' _ _ (hK _ hI)
  · generalize hA : putsA _ _ x (0 :: 1 :: 2 :: 3 :: 4 :: 5 :: 6 :: 7 :: 8 :: 9 :: 10 :: 11 :: 12 :: 13 :: 14 :: 15 :: 16 :: 17 :: 18 :: 19 :: 20 :: 21 :: 22 :: 23 :: 24 :: 25 :: 26 :: 27 :: 28 :: 29 :: 30 :: 31 :: 32 :: 33 :: []) = A at *
    have e178 : A.tmps[178]? = some (x 6) := by rw [← hA]; exact putsA_in (i := 6) 178 (by rfl) (by rw [hsz]; decide) _ (by decide +kernel) (by decide)
    have f6 : x 6 = .bool false := hd 6 (by decide)
    rw [f6] at e178
    clear hA hd h3 h4
    refine wpOp_step rfl (fun K' hK' => ?_)
    go_simp
    exact hK' _ _ (hK _ hI)
  · generalize hA : putsA _ _ x (0 :: 1 :: 2 :: 3 :: 4 :: 5 :: 6 :: 7 :: 8 :: 9 :: 10 :: 11 :: 12 :: 13 :: 14 :: 15 :: 16 :: 17 :: 18 :: 19 :: 20 :: 21 :: 22 :: 23 :: 24 :: 25 :: 26 :: 27 :: 28 :: 29 :: 30 :: 31 :: 32 :: 33 :: []) = A at *
    have e3 : A.tmps[3]? = some (.pointer (some ⟨g, 0, none⟩)) := by rw [← hA]; exact (putsA_at 3 _ (by decide +kernel)).trans h3
    have e179 : A.tmps[179]? = some (x 7) := by rw [← hA]; exact putsA_in (i := 7) 179 (by rfl) (by rw [hsz]; decide) _ (by decide +kernel) (by decide)
    have f7 : x 7 = .bool false := hd 7 (by decide)
    rw [f7] at e179
    clear hA hd h3 h4
    refine wpOp_step rfl (fun K' hK' => ?_)
    go_simp
    exact hK' _ _ (hK _ hI)
  · generalize hA : putsA _ _ x (0 :: 1 :: 2 :: 3 :: 4 :: 5 :: 6 :: 7 :: 8 :: 9 :: 10 :: 11 :: 12 :: 13 :: 14 :: 15 :: 16 :: 17 :: 18 :: 19 :: 20 :: 21 :: 22 :: 23 :: 24 :: 25 :: 26 :: 27 :: 28 :: 29 :: 30 :: 31 :: 32 :: 33 :: []) = A at *
    have e179 : A.tmps[179]? = some (x 7) := by rw [← hA]; exact putsA_in (i := 7) 179 (by rfl) (by rw [hsz]; decide) _ (by decide +kernel) (by decide)
    have f7 : x 7 = .bool false := hd 7 (by decide)
    rw [f7] at e179
    have e180 : A.tmps[180]? = some (x 8) := by rw [← hA]; exact putsA_in (i := 8) 180 (by rfl) (by rw [hsz]; decide) _ (by decide +kernel) (by decide)
    have f8 : x 8 = .pointer (some ⟨g, 0, none⟩) := hd 8 (by decide)
    rw [f8] at e180
    clear hA hd h3 h4
    refine wpOp_step rfl (fun K' hK' => ?_)
    go_simp
    refine (HOP.out W hI).mono ?_
    rintro e w' ⟨rfl, rfl⟩
    exact hK' _ _ (hK _ hI)
  · generalize hA : putsA _ _ x (0 :: 1 :: 2 :: 3 :: 4 :: 5 :: 6 :: 7 :: 8 :: 9 :: 10 :: 11 :: 12 :: 13 :: 14 :: 15 :: 16 :: 17 :: 18 :: 19 :: 20 :: 21 :: 22 :: 23 :: 24 :: 25 :: 26 :: 27 :: 28 :: 29 :: 30 :: 31 :: 32 :: 33 :: []) = A at *
    have e4 : A.tmps[4]? = some (.pointer (some ⟨gr, 0, none⟩)) := by rw [← hA]; exact (putsA_at 4 _ (by decide +kernel)).trans h4
    have e179 : A.tmps[179]? = some (x 7) := by rw [← hA]; exact putsA_in (i := 7) 179 (by rfl) (by rw [hsz]; decide) _ (by decide +kernel) (by decide)
    have f7 : x 7 = .bool false := hd 7 (by decide)
    rw [f7] at e179
    clear hA hd h3 h4
    refine wpOp_step rfl (fun K' hK' => ?_)
    go_simp
    exact hK' _ _ (hK _ hI)
  · generalize hA : putsA _ _ x (0 :: 1 :: 2 :: 3 :: 4 :: 5 :: 6 :: 7 :: 8 :: 9 :: 10 :: 11 :: 12 :: 13 :: 14 :: 15 :: 16 :: 17 :: 18 :: 19 :: 20 :: 21 :: 22 :: 23 :: 24 :: 25 :: 26 :: 27 :: 28 :: 29 :: 30 :: 31 :: 32 :: 33 :: []) = A at *
    have e179 : A.tmps[179]? = some (x 7) := by rw [← hA]; exact putsA_in (i := 7) 179 (by rfl) (by rw [hsz]; decide) _ (by decide +kernel) (by decide)
    have f7 : x 7 = .bool false := hd 7 (by decide)
    rw [f7] at e179
    have e182 : A.tmps[182]? = some (x 10) := by rw [← hA]; exact putsA_in (i := 10) 182 (by rfl) (by rw [hsz]; decide) _ (by decide +kernel) (by decide)
    have f10 : x 10 = .pointer (some ⟨gr, 0, none⟩) := hd 10 (by decide)
    rw [f10] at e182
    clear hA hd h3 h4
    refine wpOp_step rfl (fun K' hK' => ?_)
    go_simp
    exact hK' _ _ (hK _ hI)
  · generalize hA : putsA _ _ x (0 :: 1 :: 2 :: 3 :: 4 :: 5 :: 6 :: 7 :: 8 :: 9 :: 10 :: 11 :: 12 :: 13 :: 14 :: 15 :: 16 :: 17 :: 18 :: 19 :: 20 :: 21 :: 22 :: 23 :: 24 :: 25 :: 26 :: 27 :: 28 :: 29 :: 30 :: 31 :: 32 :: 33 :: []) = A at *
    have e179 : A.tmps[179]? = some (x 7) := by rw [← hA]; exact putsA_in (i := 7) 179 (by rfl) (by rw [hsz]; decide) _ (by decide +kernel) (by decide)
    have f7 : x 7 = .bool false := hd 7 (by decide)
    rw [f7] at e179
    have e183 : A.tmps[183]? = some (x 11) := by rw [← hA]; exact putsA_in (i := 11) 183 (by rfl) (by rw [hsz]; decide) _ (by decide +kernel) (by decide)
    have f11 : x 11 = .pointer (some ⟨gr, 0, none⟩) := hd 11 (by decide)
    rw [f11] at e183
    clear hA hd h3 h4
    refine wpOp_step rfl (fun K' hK' => ?_)
    go_simp
    exact hK' _ _ (hK _ hI)
  · generalize hA : putsA _ _ x (0 :: 1 :: 2 :: 3 :: 4 :: 5 :: 6 :: 7 :: 8 :: 9 :: 10 :: 11 :: 12 :: 13 :: 14 :: 15 :: 16 :: 17 :: 18 :: 19 :: 20 :: 21 :: 22 :: 23 :: 24 :: 25 :: 26 :: 27 :: 28 :: 29 :: 30 :: 31 :: 32 :: 33 :: []) = A at *
    have e179 : A.tmps[179]? = some (x 7) := by rw [← hA]; exact putsA_in (i := 7) 179 (by rfl) (by rw [hsz]; decide) _ (by decide +kernel) (by decide)
    have f7 : x 7 = .bool false := hd 7 (by decide)
    rw [f7] at e179
    have e184 : A.tmps[184]? = some (x 12) := by rw [← hA]; exact putsA_in (i := 12) 184 (by rfl) (by rw [hsz]; decide) _ (by decide +kernel) (by decide)
    have f12 : x 12 = .pointer (some ⟨gr, 18, none⟩) := hd 12 (by decide)
    rw [f12] at e184
    clear hA hd h3 h4
    obtain ⟨c20, c18, c16⟩ := HRC.out W hI
    refine wpOp_step rfl (fun K' hK' => ?_)
    go_simp
    exact hK' _ _ (hK _ hI)
  · generalize hA : putsA _ _ x (0 :: 1 :: 2 :: 3 :: 4 :: 5 :: 6 :: 7 :: 8 :: 9 :: 10 :: 11 :: 12 :: 13 :: 14 :: 15 :: 16 :: 17 :: 18 :: 19 :: 20 :: 21 :: 22 :: 23 :: 24 :: 25 :: 26 :: 27 :: 28 :: 29 :: 30 :: 31 :: 32 :: 33 :: []) = A at *
    have e179 : A.tmps[179]? = some (x 7) := by rw [← hA]; exact putsA_in (i := 7) 179 (by rfl) (by rw [hsz]; decide) _ (by decide +kernel) (by decide)
    have f7 : x 7 = .bool false := hd 7 (by decide)
    rw [f7] at e179
    have e181 : A.tmps[181]? = some (x 9) := by rw [← hA]; exact putsA_in (i := 9) 181 (by rfl) (by rw [hsz]; decide) _ (by decide +kernel) (by decide)
    have f9 : x 9 = .int .i64 OP := hd 9 (by decide)
    rw [f9] at e181
    have e185 : A.tmps[185]? = some (x 13) := by rw [← hA]; exact putsA_in (i := 13) 185 (by rfl) (by rw [hsz]; decide) _ (by decide +kernel) (by decide)
    have f13 : x 13 = .int .i64 OP := hd 13 (by decide)
    rw [f13] at e185
    clear hA hd h3 h4
    refine wpOp_step rfl (fun K' hK' => ?_)
    go_simp
    exact hK' _ _ (hK _ hI)
  · generalize hA : putsA _ _ x (0 :: 1 :: 2 :: 3 :: 4 :: 5 :: 6 :: 7 :: 8 :: 9 :: 10 :: 11 :: 12 :: 13 :: 14 :: 15 :: 16 :: 17 :: 18 :: 19 :: 20 :: 21 :: 22 :: 23 :: 24 :: 25 :: 26 :: 27 :: 28 :: 29 :: 30 :: 31 :: 32 :: 33 :: []) = A at *
    have e179 : A.tmps[179]? = some (x 7) := by rw [← hA]; exact putsA_in (i := 7) 179 (by rfl) (by rw [hsz]; decide) _ (by decide +kernel) (by decide)
    have f7 : x 7 = .bool false := hd 7 (by decide)
    rw [f7] at e179
    have e186 : A.tmps[186]? = some (x 14) := by rw [← hA]; exact putsA_in (i := 14) 186 (by rfl) (by rw [hsz]; decide) _ (by decide +kernel) (by decide)
    have f14 : x 14 = .bool false := hd 14 (by decide)
    rw [f14] at e186
    clear hA hd h3 h4
    refine wpOp_step rfl (fun K' hK' => ?_)
    go_simp
    exact hK' _ _ (hK _ hI)
  · generalize hA : putsA _ _ x (0 :: 1 :: 2 :: 3 :: 4 :: 5 :: 6 :: 7 :: 8 :: 9 :: 10 :: 11 :: 12 :: 13 :: 14 :: 15 :: 16 :: 17 :: 18 :: 19 :: 20 :: 21 :: 22 :: 23 :: 24 :: 25 :: 26 :: 27 :: 28 :: 29 :: 30 :: 31 :: 32 :: 33 :: []) = A at *
    have e187 : A.tmps[187]? = some (x 15) := by rw [← hA]; exact putsA_in (i := 15) 187 (by rfl) (by rw [hsz]; decide) _ (by decide +kernel) (by decide)
    have f15 : x 15 = .bool false := hd 15 (by decide)
    rw [f15] at e187
    clear hA hd h3 h4
    refine wpOp_step rfl (fun K' hK' => ?_)
    go_simp
    exact hK' _ _ (hK _ hI)
  · generalize hA : putsA _ _ x (0 :: 1 :: 2 :: 3 :: 4 :: 5 :: 6 :: 7 :: 8 :: 9 :: 10 :: 11 :: 12 :: 13 :: 14 :: 15 :: 16 :: 17 :: 18 :: 19 :: 20 :: 21 :: 22 :: 23 :: 24 :: 25 :: 26 :: 27 :: 28 :: 29 :: 30 :: 31 :: 32 :: 33 :: []) = A at *
    have e3 : A.tmps[3]? = some (.pointer (some ⟨g, 0, none⟩)) := by rw [← hA]; exact (putsA_at 3 _ (by decide +kernel)).trans h3
    have e188 : A.tmps[188]? = some (x 16) := by rw [← hA]; exact putsA_in (i := 16) 188 (by rfl) (by rw [hsz]; decide) _ (by decide +kernel) (by decide)
    have f16 : x 16 = .bool false := hd 16 (by decide)
    rw [f16] at e188
    clear hA hd h3 h4
    refine wpOp_step rfl (fun K' hK' => ?_)
    go_simp
    exact hK' _ _ (hK _ hI)
  · generalize hA : putsA _ _ x (0 :: 1 :: 2 :: 3 :: 4 :: 5 :: 6 :: 7 :: 8 :: 9 :: 10 :: 11 :: 12 :: 13 :: 14 :: 15 :: 16 :: 17 :: 18 :: 19 :: 20 :: 21 :: 22 :: 23 :: 24 :: 25 :: 26 :: 27 :: 28 :: 29 :: 30 :: 31 :: 32 :: 33 :: []) = A at *
    have e188 : A.tmps[188]? = some (x 16) := by rw [← hA]; exact putsA_in (i := 16) 188 (by rfl) (by rw [hsz]; decide) _ (by decide +kernel) (by decide)
    have f16 : x 16 = .bool false := hd 16 (by decide)
    rw [f16] at e188
    have e189 : A.tmps[189]? = some (x 17) := by rw [← hA]; exact putsA_in (i := 17) 189 (by rfl) (by rw [hsz]; decide) _ (by decide +kernel) (by decide)
    have f17 : x 17 = .pointer (some ⟨g, 0, none⟩) := hd 17 (by decide)
    rw [f17] at e189
    clear hA hd h3 h4
    refine wpOp_step rfl (fun K' hK' => ?_)
    go_simp
    refine (HLO.out W hI).mono ?_
    rintro e w' ⟨rfl, rfl⟩
    exact hK' _ _ (hK _ hI)
  · generalize hA : putsA _ _ x (0 :: 1 :: 2 :: 3 :: 4 :: 5 :: 6 :: 7 :: 8 :: 9 :: 10 :: 11 :: 12 :: 13 :: 14 :: 15 :: 16 :: 17 :: 18 :: 19 :: 20 :: 21 :: 22 :: 23 :: 24 :: 25 :: 26 :: 27 :: 28 :: 29 :: 30 :: 31 :: 32 :: 33 :: []) = A at *
    have e4 : A.tmps[4]? = some (.pointer (some ⟨gr, 0, none⟩)) := by rw [← hA]; exact (putsA_at 4 _ (by decide +kernel)).trans h4
    have e188 : A.tmps[188]? = some (x 16) := by rw [← hA]; exact putsA_in (i := 16) 188 (by rfl) (by rw [hsz]; decide) _ (by decide +kernel) (by decide)
    have f16 : x 16 = .bool false := hd 16 (by decide)
    rw [f16] at e188
    clear hA hd h3 h4
    refine wpOp_step rfl (fun K' hK' => ?_)
    go_simp
    exact hK' _ _ (hK _ hI)
  · generalize hA : putsA _ _ x (0 :: 1 :: 2 :: 3 :: 4 :: 5 :: 6 :: 7 :: 8 :: 9 :: 10 :: 11 :: 12 :: 13 :: 14 :: 15 :: 16 :: 17 :: 18 :: 19 :: 20 :: 21 :: 22 :: 23 :: 24 :: 25 :: 26 :: 27 :: 28 :: 29 :: 30 :: 31 :: 32 :: 33 :: []) = A at *
    have e188 : A.tmps[188]? = some (x 16) := by rw [← hA]; exact putsA_in (i := 16) 188 (by rfl) (by rw [hsz]; decide) _ (by decide +kernel) (by decide)
    have f16 : x 16 = .bool false := hd 16 (by decide)
    rw [f16] at e188
    have e191 : A.tmps[191]? = some (x 19) := by rw [← hA]; exact putsA_in (i := 19) 191 (by rfl) (by rw [hsz]; decide) _ (by decide +kernel) (by decide)
    have f19 : x 19 = .pointer (some ⟨gr, 0, none⟩) := hd 19 (by decide)
    rw [f19] at e191
    clear hA hd h3 h4
    refine wpOp_step rfl (fun K' hK' => ?_)
    go_simp
    exact hK' _ _ (hK _ hI)
  · generalize hA : putsA _ _ x (0 :: 1 :: 2 :: 3 :: 4 :: 5 :: 6 :: 7 :: 8 :: 9 :: 10 :: 11 :: 12 :: 13 :: 14 :: 15 :: 16 :: 17 :: 18 :: 19 :: 20 :: 21 :: 22 :: 23 :: 24 :: 25 :: 26 :: 27 :: 28 :: 29 :: 30 :: 31 :: 32 :: 33 :: []) = A at *
    have e188 : A.tmps[188]? = some (x 16) := by rw [← hA]; exact putsA_in (i := 16) 188 (by rfl) (by rw [hsz]; decide) _ (by decide +kernel) (by decide)
    have f16 : x 16 = .bool false := hd 16 (by decide)
    rw [f16] at e188
    have e192 : A.tmps[192]? = some (x 20) := by rw [← hA]; exact putsA_in (i := 20) 192 (by rfl) (by rw [hsz]; decide) _ (by decide +kernel) (by decide)
    have f20 : x 20 = .pointer (some ⟨gr, 0, none⟩) := hd 20 (by decide)
    rw [f20] at e192
    clear hA hd h3 h4
    refine wpOp_step rfl (fun K' hK' => ?_)
    go_simp
    exact hK' _ _ (hK _ hI)
  · generalize hA : putsA _ _ x (0 :: 1 :: 2 :: 3 :: 4 :: 5 :: 6 :: 7 :: 8 :: 9 :: 10 :: 11 :: 12 :: 13 :: 14 :: 15 :: 16 :: 17 :: 18 :: 19 :: 20 :: 21 :: 22 :: 23 :: 24 :: 25 :: 26 :: 27 :: 28 :: 29 :: 30 :: 31 :: 32 :: 33 :: []) = A at *
    have e188 : A.tmps[188]? = some (x 16) := by rw [← hA]; exact putsA_in (i := 16) 188 (by rfl) (by rw [hsz]; decide) _ (by decide +kernel) (by decide)
    have f16 : x 16 = .bool false := hd 16 (by decide)
    rw [f16] at e188
    have e193 : A.tmps[193]? = some (x 21) := by rw [← hA]; exact putsA_in (i := 21) 193 (by rfl) (by rw [hsz]; decide) _ (by decide +kernel) (by decide)
    have f21 : x 21 = .pointer (some ⟨gr, 16, none⟩) := hd 21 (by decide)
    rw [f21] at e193
    clear hA hd h3 h4
    obtain ⟨c20, c18, c16⟩ := HRC.out W hI
    refine wpOp_step rfl (fun K' hK' => ?_)
    go_simp
    exact hK' _ _ (hK _ hI)
  · generalize hA : putsA _ _ x (0 :: 1 :: 2 :: 3 :: 4 :: 5 :: 6 :: 7 :: 8 :: 9 :: 10 :: 11 :: 12 :: 13 :: 14 :: 15 :: 16 :: 17 :: 18 :: 19 :: 20 :: 21 :: 22 :: 23 :: 24 :: 25 :: 26 :: 27 :: 28 :: 29 :: 30 :: 31 :: 32 :: 33 :: []) = A at *
    have e188 : A.tmps[188]? = some (x 16) := by rw [← hA]; exact putsA_in (i := 16) 188 (by rfl) (by rw [hsz]; decide) _ (by decide +kernel) (by decide)
    have f16 : x 16 = .bool false := hd 16 (by decide)
    rw [f16] at e188
    have e194 : A.tmps[194]? = some (x 22) := by rw [← hA]; exact putsA_in (i := 22) 194 (by rfl) (by rw [hsz]; decide) _ (by decide +kernel) (by decide)
    have f22 : x 22 = .slice LA LO LC := hd 22 (by decide)
    rw [f22] at e194
    clear hA hd h3 h4
    refine wpOp_step rfl (fun K' hK' => ?_)
    go_simp
    exact hK' _ _ (hK _ hI)
  · generalize hA : putsA _ _ x (0 :: 1 :: 2 :: 3 :: 4 :: 5 :: 6 :: 7 :: 8 :: 9 :: 10 :: 11 :: 12 :: 13 :: 14 :: 15 :: 16 :: 17 :: 18 :: 19 :: 20 :: 21 :: 22 :: 23 :: 24 :: 25 :: 26 :: 27 :: 28 :: 29 :: 30 :: 31 :: 32 :: 33 :: []) = A at *
    have e188 : A.tmps[188]? = some (x 16) := by rw [← hA]; exact putsA_in (i := 16) 188 (by rfl) (by rw [hsz]; decide) _ (by decide +kernel) (by decide)
    have f16 : x 16 = .bool false := hd 16 (by decide)
    rw [f16] at e188
    have e190 : A.tmps[190]? = some (x 18) := by rw [← hA]; exact putsA_in (i := 18) 190 (by rfl) (by rw [hsz]; decide) _ (by decide +kernel) (by decide)
    have f18 : x 18 = .int .i64 (LO : Nat) := hd 18 (by decide)
    rw [f18] at e190
    have e195 : A.tmps[195]? = some (x 23) := by rw [← hA]; exact putsA_in (i := 23) 195 (by rfl) (by rw [hsz]; decide) _ (by decide +kernel) (by decide)
    have f23 : x 23 = .int .i64 (LO : Nat) := hd 23 (by decide)
    rw [f23] at e195
    clear hA hd h3 h4
    refine wpOp_step rfl (fun K' hK' => ?_)
    go_simp
    exact hK' _ _ (hK _ hI)
  · generalize hA : putsA _ _ x (0 :: 1 :: 2 :: 3 :: 4 :: 5 :: 6 :: 7 :: 8 :: 9 :: 10 :: 11 :: 12 :: 13 :: 14 :: 15 :: 16 :: 17 :: 18 :: 19 :: 20 :: 21 :: 22 :: 23 :: 24 :: 25 :: 26 :: 27 :: 28 :: 29 :: 30 :: 31 :: 32 :: 33 :: []) = A at *
    have e188 : A.tmps[188]? = some (x 16) := by rw [← hA]; exact putsA_in (i := 16) 188 (by rfl) (by rw [hsz]; decide) _ (by decide +kernel) (by decide)
    have f16 : x 16 = .bool false := hd 16 (by decide)
    rw [f16] at e188
    have e196 : A.tmps[196]? = some (x 24) := by rw [← hA]; exact putsA_in (i := 24) 196 (by rfl) (by rw [hsz]; decide) _ (by decide +kernel) (by decide)
    have f24 : x 24 = .bool false := hd 24 (by decide)
    rw [f24] at e196
    clear hA hd h3 h4
    refine wpOp_step rfl (fun K' hK' => ?_)
    go_simp
    exact hK' _ _ (hK _ hI)
  · generalize hA : putsA _ _ x (0 :: 1 :: 2 :: 3 :: 4 :: 5 :: 6 :: 7 :: 8 :: 9 :: 10 :: 11 :: 12 :: 13 :: 14 :: 15 :: 16 :: 17 :: 18 :: 19 :: 20 :: 21 :: 22 :: 23 :: 24 :: 25 :: 26 :: 27 :: 28 :: 29 :: 30 :: 31 :: 32 :: 33 :: []) = A at *
    have e197 : A.tmps[197]? = some (x 25) := by rw [← hA]; exact putsA_in (i := 25) 197 (by rfl) (by rw [hsz]; decide) _ (by decide +kernel) (by decide)
    have f25 : x 25 = .bool false := hd 25 (by decide)
    rw [f25] at e197
    clear hA hd h3 h4
    refine wpOp_step rfl (fun K' hK' => ?_)
    go_simp
    exact hK' _ _ (hK _ hI)
  · generalize hA : putsA _ _ x (0 :: 1 :: 2 :: 3 :: 4 :: 5 :: 6 :: 7 :: 8 :: 9 :: 10 :: 11 :: 12 :: 13 :: 14 :: 15 :: 16 :: 17 :: 18 :: 19 :: 20 :: 21 :: 22 :: 23 :: 24 :: 25 :: 26 :: 27 :: 28 :: 29 :: 30 :: 31 :: 32 :: 33 :: []) = A at *
    have e3 : A.tmps[3]? = some (.pointer (some ⟨g, 0, none⟩)) := by rw [← hA]; exact (putsA_at 3 _ (by decide +kernel)).trans h3
    have e198 : A.tmps[198]? = some (x 26) := by rw [← hA]; exact putsA_in (i := 26) 198 (by rfl) (by rw [hsz]; decide) _ (by decide +kernel) (by decide)
    have f26 : x 26 = .bool false := hd 26 (by decide)
    rw [f26] at e198
    clear hA hd h3 h4
    refine wpOp_step rfl (fun K' hK' => ?_)
    go_simp
    exact hK' _ _ (hK _ hI)
  · generalize hA : putsA _ _ x (0 :: 1 :: 2 :: 3 :: 4 :: 5 :: 6 :: 7 :: 8 :: 9 :: 10 :: 11 :: 12 :: 13 :: 14 :: 15 :: 16 :: 17 :: 18 :: 19 :: 20 :: 21 :: 22 :: 23 :: 24 :: 25 :: 26 :: 27 :: 28 :: 29 :: 30 :: 31 :: 32 :: 33 :: []) = A at *
    have e198 : A.tmps[198]? = some (x 26) := by rw [← hA]; exact putsA_in (i := 26) 198 (by rfl) (by rw [hsz]; decide) _ (by decide +kernel) (by decide)
    have f26 : x 26 = .bool false := hd 26 (by decide)
    rw [f26] at e198
    have e199 : A.tmps[199]? = some (x 27) := by rw [← hA]; exact putsA_in (i := 27) 199 (by rfl) (by rw [hsz]; decide) _ (by decide +kernel) (by decide)
    have f27 : x 27 = .pointer (some ⟨g, 0, none⟩) := hd 27 (by decide)
    rw [f27] at e199
    clear hA hd h3 h4
    refine wpOp_step rfl (fun K' hK' => ?_)
    go_simp
    refine (HS1.out W hI).mono ?_
    rintro e w' ⟨rfl, rfl⟩
    exact hK' _ _ (hK _ hI)
  · generalize hA : putsA _ _ x (0 :: 1 :: 2 :: 3 :: 4 :: 5 :: 6 :: 7 :: 8 :: 9 :: 10 :: 11 :: 12 :: 13 :: 14 :: 15 :: 16 :: 17 :: 18 :: 19 :: 20 :: 21 :: 22 :: 23 :: 24 :: 25 :: 26 :: 27 :: 28 :: 29 :: 30 :: 31 :: 32 :: 33 :: []) = A at *
    have e3 : A.tmps[3]? = some (.pointer (some ⟨g, 0, none⟩)) := by rw [← hA]; exact (putsA_at 3 _ (by decide +kernel)).trans h3
    have e198 : A.tmps[198]? = some (x 26) := by rw [← hA]; exact putsA_in (i := 26) 198 (by rfl) (by rw [hsz]; decide) _ (by decide +kernel) (by decide)
    have f26 : x 26 = .bool false := hd 26 (by decide)
    rw [f26] at e198
    clear hA hd h3 h4
    refine wpOp_step rfl (fun K' hK' => ?_)
    go_simp
    exact hK' _ _ (hK _ hI)
  · generalize hA : putsA _ _ x (0 :: 1 :: 2 :: 3 :: 4 :: 5 :: 6 :: 7 :: 8 :: 9 :: 10 :: 11 :: 12 :: 13 :: 14 :: 15 :: 16 :: 17 :: 18 :: 19 :: 20 :: 21 :: 22 :: 23 :: 24 :: 25 :: 26 :: 27 :: 28 :: 29 :: 30 :: 31 :: 32 :: 33 :: []) = A at *
    have e198 : A.tmps[198]? = some (x 26) := by rw [← hA]; exact putsA_in (i := 26) 198 (by rfl) (by rw [hsz]; decide) _ (by decide +kernel) (by decide)
    have f26 : x 26 = .bool false := hd 26 (by decide)
    rw [f26] at e198
    have e201 : A.tmps[201]? = some (x 29) := by rw [← hA]; exact putsA_in (i := 29) 201 (by rfl) (by rw [hsz]; decide) _ (by decide +kernel) (by decide)
    have f29 : x 29 = .pointer (some ⟨g, 0, none⟩) := hd 29 (by decide)
    rw [f29] at e201
    clear hA hd h3 h4
    refine wpOp_step rfl (fun K' hK' => ?_)
    go_simp
    refine (HS8.out W hI).mono ?_
    rintro e w' ⟨rfl, rfl⟩
    exact hK' _ _ (hK _ hI)
  · generalize hA : putsA _ _ x (0 :: 1 :: 2 :: 3 :: 4 :: 5 :: 6 :: 7 :: 8 :: 9 :: 10 :: 11 :: 12 :: 13 :: 14 :: 15 :: 16 :: 17 :: 18 :: 19 :: 20 :: 21 :: 22 :: 23 :: 24 :: 25 :: 26 :: 27 :: 28 :: 29 :: 30 :: 31 :: 32 :: 33 :: []) = A at *
    have e198 : A.tmps[198]? = some (x 26) := by rw [← hA]; exact putsA_in (i := 26) 198 (by rfl) (by rw [hsz]; decide) _ (by decide +kernel) (by decide)
    have f26 : x 26 = .bool false := hd 26 (by decide)
    rw [f26] at e198
    have e200 : A.tmps[200]? = some (x 28) := by rw [← hA]; exact putsA_in (i := 28) 200 (by rfl) (by rw [hsz]; decide) _ (by decide +kernel) (by decide)
    have f28 : x 28 = .int .i64 0 := hd 28 (by decide)
    rw [f28] at e200
    have e202 : A.tmps[202]? = some (x 30) := by rw [← hA]; exact putsA_in (i := 30) 202 (by rfl) (by rw [hsz]; decide) _ (by decide +kernel) (by decide)
    have f30 : x 30 = .int .i64 0 := hd 30 (by decide)
    rw [f30] at e202
    clear hA hd h3 h4
    refine wpOp_step rfl (fun K' hK' => ?_)
    go_simp
    exact hK' _ _ (hK _ hI)
  · generalize hA : putsA _ _ x (0 :: 1 :: 2 :: 3 :: 4 :: 5 :: 6 :: 7 :: 8 :: 9 :: 10 :: 11 :: 12 :: 13 :: 14 :: 15 :: 16 :: 17 :: 18 :: 19 :: 20 :: 21 :: 22 :: 23 :: 24 :: 25 :: 26 :: 27 :: 28 :: 29 :: 30 :: 31 :: 32 :: 33 :: []) = A at *
    have e198 : A.tmps[198]? = some (x 26) := by rw [← hA]; exact putsA_in (i := 26) 198 (by rfl) (by rw [hsz]; decide) _ (by decide +kernel) (by decide)
    have f26 : x 26 = .bool false := hd 26 (by decide)
    rw [f26] at e198
    have e203 : A.tmps[203]? = some (x 31) := by rw [← hA]; exact putsA_in (i := 31) 203 (by rfl) (by rw [hsz]; decide) _ (by decide +kernel) (by decide)
    have f31 : x 31 = .int .i64 0 := hd 31 (by decide)
    rw [f31] at e203
    clear hA hd h3 h4
    refine wpOp_step rfl (fun K' hK' => ?_)
    go_simp
    exact hK' _ _ (hK _ hI)
  · generalize hA : putsA _ _ x (0 :: 1 :: 2 :: 3 :: 4 :: 5 :: 6 :: 7 :: 8 :: 9 :: 10 :: 11 :: 12 :: 13 :: 14 :: 15 :: 16 :: 17 :: 18 :: 19 :: 20 :: 21 :: 22 :: 23 :: 24 :: 25 :: 26 :: 27 :: 28 :: 29 :: 30 :: 31 :: 32 :: 33 :: []) = A at *
    have e198 : A.tmps[198]? = some (x 26) := by rw [← hA]; exact putsA_in (i := 26) 198 (by rfl) (by rw [hsz]; decide) _ (by decide +kernel) (by decide)
    have f26 : x 26 = .bool false := hd 26 (by decide)
    rw [f26] at e198
    have e204 : A.tmps[204]? = some (x 32) := by rw [← hA]; exact putsA_in (i := 32) 204 (by rfl) (by rw [hsz]; decide) _ (by decide +kernel) (by decide)
    have f32 : x 32 = .bool false := hd 32 (by decide)
    rw [f32] at e204
    clear hA hd h3 h4
    refine wpOp_step rfl (fun K' hK' => ?_)
    go_simp
    exact hK' _ _ (hK _ hI)
set_option maxRecDepth 100000 in
set_option maxHeartbeats 8000000 in
theorem st43 {w : World} {g gr j : Nat} {d3 : Dk} {LL c3 k : Nat} {A3 : Option Addr} {Q : Exit → Act → World → Prop} (ops : Array Oper) (hops : findF Try.f4 43 = some ops) (a0 : Act) (hsz : a0.tmps.size = 256) (h3 : a0.tmps[3]? = some (.pointer (some ⟨g, 0, none⟩))) (h4 : a0.tmps[4]? = some (.pointer (some ⟨gr, 0, none⟩))) (h12 : a0.tmps[12]? = some (.int .i64 (k : Nat))) (HSZ : Hid (∀ V, (Pl w g d3 (3 * (j + 1)) gr d3 (3 * (j + 1)) V ∧ V.cell? ⟨gr, k, none⟩ = some (.slice A3 LL c3)) → Calls Try.prog 12 #[.pointer (some ⟨g, 0, none⟩), .int .i64 (k : Nat)] V fun e w' => e = .returned (.int .i64 (LL : Nat)) ∧ V = w')) (hkI : (k : Int) < 8) (h0k : (0 : Int) ≤ (k : Int)) :
    ∀ i ∈ (0 :: 1 :: 2 :: 3 :: 4 :: 5 :: 6 :: 7 :: 8 :: 9 :: 10 :: []), ∀ b c, (i = 99 → b = true) → (i = 99 → c = true) → ∀ x W, (∀ dd ∈ (fun i => match i with | 2 => [0, 1] | 5 => [3] | 6 => [5] | 7 => [4, 6] | 8 => [7] | 9 => [8] | 10 => [2, 9] | _ => []) i, x dd = (fun i => match i with | 0 => (.pointer (some ⟨g, 0, none⟩) : Value) | 1 => (.int .i64 (k : Nat) : Value) | 2 => (.int .i64 (LL : Nat) : Value) | 3 => (.pointer (some ⟨gr, 0, none⟩) : Value) | 4 => (.int .i64 (k : Nat) : Value) | 5 => (.pointer (some ⟨gr, 0, none⟩) : Value) | 6 => (.pointer (some ⟨gr, 0, none⟩) : Value) | 7 => (.pointer (some ⟨gr, k, none⟩) : Value) | 8 => (.slice A3 LL c3 : Value) | 9 => (.int .i64 (LL : Nat) : Value) | 10 => (.bool false : Value) | _ => undef) dd) → (fun _ _ W => Pl w g d3 (3 * (j + 1)) gr d3 (3 * (j + 1)) W ∧ W.cell? ⟨gr, k, none⟩ = some (.slice A3 LL c3)) b c W → ∀ K : Act → World → Prop, (∀ w', (fun _ _ W => Pl w g d3 (3 * (j + 1)) gr d3 (3 * (j + 1)) W ∧ W.cell? ⟨gr, k, none⟩ = some (.slice A3 LL c3)) (if i = 99 then false else b) (if i = 99 then false else c) w' → K ((putsA ops a0 x (0 :: 1 :: 2 :: 3 :: 4 :: 5 :: 6 :: 7 :: 8 :: 9 :: 10 :: [])).put (dstOf ops i) ((fun i => match i with | 0 => (.pointer (some ⟨g, 0, none⟩) : Value) | 1 => (.int .i64 (k : Nat) : Value) | 2 => (.int .i64 (LL : Nat) : Value) | 3 => (.pointer (some ⟨gr, 0, none⟩) : Value) | 4 => (.int .i64 (k : Nat) : Value) | 5 => (.pointer (some ⟨gr, 0, none⟩) : Value) | 6 => (.pointer (some ⟨gr, 0, none⟩) : Value) | 7 => (.pointer (some ⟨gr, k, none⟩) : Value) | 8 => (.slice A3 LL c3 : Value) | 9 => (.int .i64 (LL : Nat) : Value) | 10 => (.bool false : Value) | _ => undef) i)) w') → wpOp Try.prog ops Q i K (putsA ops a0 x (0 :: 1 :: 2 :: 3 :: 4 :: 5 :: 6 :: 7 :: 8 :: 9 :: 10 :: [])) W := by
  conv at hops => lhs; whnf
  injection hops with hops
  subst hops
  intro i hi b c hpb hqc x W hd hI K hK
  simp only [List.mem_cons, List.not_mem_nil, or_false] at hi
  rcases hi with rfl | rfl | rfl | rfl | rfl | rfl | rfl | rfl | rfl | rfl | rfl
  · generalize hA : putsA _ _ x (0 :: 1 :: 2 :: 3 :: 4 :: 5 :: 6 :: 7 :: 8 :: 9 :: 10 :: []) = A at *
    have e3 : A.tmps[3]? = some (.pointer (some ⟨g, 0, none⟩)) := by rw [← hA]; exact (putsA_at 3 _ (by decide +kernel)).trans h3
    clear hA hd h3 h4 h12
    refine wpOp_step rfl (fun K' hK' => ?_)
    go_simp
    exact hK' _ _ (hK _ hI)
  · generalize hA : putsA _ _ x (0 :: 1 :: 2 :: 3 :: 4 :: 5 :: 6 :: 7 :: 8 :: 9 :: 10 :: []) = A at *
    have e12 : A.tmps[12]? = some (.int .i64 (k : Nat)) := by rw [← hA]; exact (putsA_at 12 _ (by decide +kernel)).trans h12
    clear hA hd h3 h4 h12
    refine wpOp_step rfl (fun K' hK' => ?_)
    go_simp
    exact hK' _ _ (hK _ hI)
  · generalize hA : putsA _ _ x (0 :: 1 :: 2 :: 3 :: 4 :: 5 :: 6 :: 7 :: 8 :: 9 :: 10 :: []) = A at *
    have e209 : A.tmps[209]? = some (x 0) := by rw [← hA]; exact putsA_in (i := 0) 209 (by rfl) (by rw [hsz]; decide) _ (by decide +kernel) (by decide)
    have f0 : x 0 = .pointer (some ⟨g, 0, none⟩) := hd 0 (by decide)
    rw [f0] at e209
    have e210 : A.tmps[210]? = some (x 1) := by rw [← hA]; exact putsA_in (i := 1) 210 (by rfl) (by rw [hsz]; decide) _ (by decide +kernel) (by decide)
    have f1 : x 1 = .int .i64 (k : Nat) := hd 1 (by decide)
    rw [f1] at e210
    clear hA hd h3 h4 h12
    refine wpOp_step rfl (fun K' hK' => ?_)
    go_simp
    refine (HSZ.out W hI).mono ?_
    rintro e w' ⟨rfl, rfl⟩
    exact hK' _ _ (hK _ hI)
  · generalize hA : putsA _ _ x (0 :: 1 :: 2 :: 3 :: 4 :: 5 :: 6 :: 7 :: 8 :: 9 :: 10 :: []) = A at *
    have e4 : A.tmps[4]? = some (.pointer (some ⟨gr, 0, none⟩)) := by rw [← hA]; exact (putsA_at 4 _ (by decide +kernel)).trans h4
    clear hA hd h3 h4 h12
    refine wpOp_step rfl (fun K' hK' => ?_)
    go_simp
    exact hK' _ _ (hK _ hI)
  · generalize hA : putsA _ _ x (0 :: 1 :: 2 :: 3 :: 4 :: 5 :: 6 :: 7 :: 8 :: 9 :: 10 :: []) = A at *
    have e12 : A.tmps[12]? = some (.int .i64 (k : Nat)) := by rw [← hA]; exact (putsA_at 12 _ (by decide +kernel)).trans h12
    clear hA hd h3 h4 h12
    refine wpOp_step rfl (fun K' hK' => ?_)
    go_simp
    exact hK' _ _ (hK _ hI)
  · generalize hA : putsA _ _ x (0 :: 1 :: 2 :: 3 :: 4 :: 5 :: 6 :: 7 :: 8 :: 9 :: 10 :: []) = A at *
    have e212 : A.tmps[212]? = some (x 3) := by rw [← hA]; exact putsA_in (i := 3) 212 (by rfl) (by rw [hsz]; decide) _ (by decide +kernel) (by decide)
    have f3 : x 3 = .pointer (some ⟨gr, 0, none⟩) := hd 3 (by decide)
    rw [f3] at e212
    clear hA hd h3 h4 h12
    refine wpOp_step rfl (fun K' hK' => ?_)
    go_simp
    exact hK' _ _ (hK _ hI)
  · generalize hA : putsA _ _ x (0 :: 1 :: 2 :: 3 :: 4 :: 5 :: 6 :: 7 :: 8 :: 9 :: 10 :: []) = A at *
    have e214 : A.tmps[214]? = some (x 5) := by rw [← hA]; exact putsA_in (i := 5) 214 (by rfl) (by rw [hsz]; decide) _ (by decide +kernel) (by decide)
    have f5 : x 5 = .pointer (some ⟨gr, 0, none⟩) := hd 5 (by decide)
    rw [f5] at e214
    clear hA hd h3 h4 h12
    refine wpOp_step rfl (fun K' hK' => ?_)
    go_simp
    exact hK' _ _ (hK _ hI)
  · generalize hA : putsA _ _ x (0 :: 1 :: 2 :: 3 :: 4 :: 5 :: 6 :: 7 :: 8 :: 9 :: 10 :: []) = A at *
    have e213 : A.tmps[213]? = some (x 4) := by rw [← hA]; exact putsA_in (i := 4) 213 (by rfl) (by rw [hsz]; decide) _ (by decide +kernel) (by decide)
    have f4 : x 4 = .int .i64 (k : Nat) := hd 4 (by decide)
    rw [f4] at e213
    have e215 : A.tmps[215]? = some (x 6) := by rw [← hA]; exact putsA_in (i := 6) 215 (by rfl) (by rw [hsz]; decide) _ (by decide +kernel) (by decide)
    have f6 : x 6 = .pointer (some ⟨gr, 0, none⟩) := hd 6 (by decide)
    rw [f6] at e215
    clear hA hd h3 h4 h12
    refine wpOp_step rfl (fun K' hK' => ?_)
    go_simp
    exact hK' _ _ (hK _ hI)
  · generalize hA : putsA _ _ x (0 :: 1 :: 2 :: 3 :: 4 :: 5 :: 6 :: 7 :: 8 :: 9 :: 10 :: []) = A at *
    have e216 : A.tmps[216]? = some (x 7) := by rw [← hA]; exact putsA_in (i := 7) 216 (by rfl) (by rw [hsz]; decide) _ (by decide +kernel) (by decide)
    have f7 : x 7 = .pointer (some ⟨gr, k, none⟩) := hd 7 (by decide)
    rw [f7] at e216
    clear hA hd h3 h4 h12
    have ck := hI.2
    refine wpOp_step rfl (fun K' hK' => ?_)
    go_simp
    exact hK' _ _ (hK _ hI)
  · generalize hA : putsA _ _ x (0 :: 1 :: 2 :: 3 :: 4 :: 5 :: 6 :: 7 :: 8 :: 9 :: 10 :: []) = A at *
    have e217 : A.tmps[217]? = some (x 8) := by rw [← hA]; exact putsA_in (i := 8) 217 (by rfl) (by rw [hsz]; decide) _ (by decide +kernel) (by decide)
    have f8 : x 8 = .slice A3 LL c3 := hd 8 (by decide)
    rw [f8] at e217
    clear hA hd h3 h4 h12
    refine wpOp_step rfl (fun K' hK' => ?_)
    go_simp
    exact hK' _ _ (hK _ hI)
  · generalize hA : putsA _ _ x (0 :: 1 :: 2 :: 3 :: 4 :: 5 :: 6 :: 7 :: 8 :: 9 :: 10 :: []) = A at *
    have e211 : A.tmps[211]? = some (x 2) := by rw [← hA]; exact putsA_in (i := 2) 211 (by rfl) (by rw [hsz]; decide) _ (by decide +kernel) (by decide)
    have f2 : x 2 = .int .i64 (LL : Nat) := hd 2 (by decide)
    rw [f2] at e211
    have e218 : A.tmps[218]? = some (x 9) := by rw [← hA]; exact putsA_in (i := 9) 218 (by rfl) (by rw [hsz]; decide) _ (by decide +kernel) (by decide)
    have f9 : x 9 = .int .i64 (LL : Nat) := hd 9 (by decide)
    rw [f9] at e218
    clear hA hd h3 h4 h12
    refine wpOp_step rfl (fun K' hK' => ?_)
    go_simp
    exact hK' _ _ (hK _ hI)
set_option maxRecDepth 100000 in
set_option maxHeartbeats 16000000 in
theorem filesPlays_walk (A : Option Addr) (l : List Fop) (n c : Nat) (hn : n = l.length) (hm : n ≤ maxLen) (hfit : ∀ x ∈ l, FitP x) (w : World) (hO : Fops w w.heap.size A l) :
    Calls Try.prog 4 #[.slice A n c] w fun e w' => e = .returned (.bool true) ∧ Below w.heap.size w w' := by
  have HW := Lib.hid works_any
  have HHV := Lib.hid (fun W (hb : Below w.heap.size w W) => heavy_any A l n c W (fops_mono (fops_below hO hb) hb.size) hn hm hfit)
  have HFA := Lib.hid (fun W (hb : Below w.heap.size w W) => far_any A l n c W (fops_mono (fops_below hO hb) hb.size) hn hm hfit)
  have HN := Lib.hid hn
  have HO := Lib.hid hO
  have HF := Lib.hid hfit
  clear hn hm hfit hO
  go_enter Try.func4, Try.ntmps4
  go_wp2_with fail
  refine (HW.out _).mono ?_
  rintro e w1 ⟨rfl, hb⟩
  have HB1 := Lib.hid hb
  clear hb
  go_wp2_with fail
  refine (HHV.out _ HB1.out).mono ?_
  rintro e w2 ⟨⟨r, rfl, hr⟩, hb⟩
  have HB2 := Lib.hid (bj HB1.out hb)
  have HR := Lib.hid hr
  clear hb hr
  cases r with
  | true =>
    go_wp2
    go_ret
    exact ⟨by first | rfl | simp, HB2.out⟩
  | false =>
  go_wp2_with fail
  refine (HFA.out _ HB2.out).mono ?_
  rintro e w3 ⟨⟨r, rfl⟩, hb⟩
  have HB3 := Lib.hid (bj HB2.out hb)
  clear hb
  cases r with
  | true =>
    go_wp2
    go_ret
    exact ⟨by first | rfl | simp, HB3.out⟩
  | false =>
  have HLI := Lib.hid (show ∀ x ∈ l, Light x from (HR.out trivial).2)
  have HL2 := Lib.hid (show n ≤ 200 from by have := HN.out; have := (HR.out trivial).1; omega)
  have hnI : (n : Int) ≤ 200 := by have := HL2.out; omega
  clear HR HHV HFA HW
  go_wp2_with fail
  refine (kd_new2 HB3.out).mono ?_
  rintro e w4 ⟨rfl, hk, hb4⟩
  have H4 := Lib.hid hk
  have HB4 := Lib.hid (bj HB3.out hb4)
  have HG4 := Lib.hid (show w3.heap.size + 1 < w4.heap.size from by obtain ⟨S, h1, _⟩ := hk; obtain ⟨m, hm⟩ := h1; exact hm.lt _ hm.sg)
  clear hk hb4
  generalize w3.heap.size + 1 = g0 at *
  go_wp2_with fail
  refine (pl_news (W1 := w4) HB4.out H4.out HG4.out).mono ?_
  rintro e w5 ⟨rfl, hk⟩
  have H5 := Lib.hid hk
  clear hk H4 HG4 HB1 HB2 HB3 HB4
  generalize w4.heap.size = gr at *
  go_wp2
  go_loopw [3, 31] (fun p v wr => ∃ (j : Nat) (g : Nat) (d : Dk), j ≤ n ∧ v = .int .i64 j ∧ p = .pointer (some ⟨g, 0, none⟩) ∧ Pl w g d (3 * j) gr d (3 * j) wr ∧ Jd d) (fun _ v _ => n - (intOf v).toNat)
  case atStart => exact ⟨0, g0, newD, by omega, rfl, rfl, H5.out, jd_new⟩
  case round =>
    obtain ⟨j, g, d, hj, rfl, rfl, hpl, hjd⟩ := hrel
    by_cases hjn : j < n
    · have hjI : (j : Int) < n := by omega
      have h0j : (0 : Int) ≤ j := by omega
      have hwj : IntKind.i64.wrap ((j : Int) + 1) = (j : Int) + 1 := by rw [IntKind.wrap_i64]; omega
      have hjl : j < l.length := by have := HN.out; omega
      have hmem := List.getElem_mem hjl
      obtain ⟨b, o, rfl, hbl, hcs⟩ := fops_get HO.out (fun e => by rw [e] at hjl; simp at hjl)
      obtain ⟨⟨a0, a1, a2, a3, a4, a5, a6⟩, hks⟩ := hcs wr (pl_b hpl) j l[j] (List.getElem?_eq_getElem hjl)
      have hks := (hcs w (Below.refl _ _) j l[j] (List.getElem?_eq_getElem hjl)).2
      have HFX := Lib.hid (HF.out l[j] hmem)
      have HLX := Lib.hid (HLI.out l[j] hmem)
      clear hmem hcs
      generalize l[j] = x at *
      have HX := Lib.hid (plx_new hpl (fopC x))
      have HJD := Lib.hid hjd
      have HKS := Lib.hid hks
      have HNJ := Lib.hid (show 3 * j + 3 ≤ 1000000 from by have := HL2.out; omega)
      have z0 : (wr.alloc (.cells (fopC x) 42)).cell? ⟨wr.heap.size, 0, none⟩ = some (.int .i64 x.kd) := (plx_cells HX.out).1
      clear hpl hjd hks
      obtain ⟨xk, xf, xp, xn, xc, xs, xA, xkc, xks⟩ := x
      simp only at a0 a1 a2 a3 a4 a5 a6 z0
      go_upto_block 2 with fail
      obtain ⟨W0, hW0⟩ : ∃ W0, wr.alloc (.cells #[.int .i64 xk, .int .i64 xf, .int .i64 xp, .int .i64 xn, .int .u8 xc, .string xs, .slice xA xks.length xkc] 42) = W0 := ⟨_, rfl⟩
      have HX2 := Lib.hid (show PlX w g d (3 * j) gr d (3 * j) wr.heap.size (fopC ⟨xk, xf, xp, xn, xc, xs, xA, xkc, xks⟩) (wr.alloc (.cells #[.int .i64 xk, .int .i64 xf, .int .i64 xp, .int .i64 xn, .int .u8 xc, .string xs, .slice xA xks.length xkc] 42)) from HX.out)
      clear HX z0 a0 a1 a2 a3 a4 a5 a6
      have HX := HX2
      clear HX2
      rw [hW0] at HX
      rw [hW0]
      clear hW0
      generalize wr.heap.size = q at HX ⊢
      go_cut [3, 7, 8, 9, 10, 11] from 32 to 221 (fun s3 s7 s8 s9 s10 s11 W => ∃ (g2 : Nat) (d2 : Dk), s3 = .pointer (some ⟨g2, 0, none⟩) ∧ Pl w g2 d2 (3 * (j + 1)) gr d2 (3 * (j + 1)) W ∧ Jd d2)
      case first =>
        by_cases hk1 : xk = 1
        · subst hk1
          as_aux_lemma =>
            obtain ⟨d2, hd2⟩ : ∃ d2, (cutD d xf xn).1 = d2 := ⟨_, rfl⟩
            obtain ⟨E, hE⟩ : ∃ E, (cutD d xf xn).2 = E := ⟨_, rfl⟩
            obtain ⟨N2, hN2⟩ : ∃ N2, 3 * j + 1 = N2 := ⟨_, rfl⟩
            obtain ⟨M2, hM2⟩ : ∃ M2, 3 * j + 1 = M2 := ⟨_, rfl⟩
            have HJ2 := Lib.hid (show Jd d2 from by rw [← hd2]; exact by have h := jd_step HJD.out (⟨1, xf, xp, xn, xc, xs, xA, xkc, xks⟩ : Fop); exact h)
            have HC1 := Lib.hid (fun (r : Dk) (M : Nat) (V : World) (h : PlX w g d (3 * j) gr r M q (fopC ⟨1, xf, xp, xn, xc, xs, xA, xkc, xks⟩) V) => (show Calls Try.prog 14 #[.pointer (some ⟨g, 0, none⟩), .int .i64 xf, .int .i64 xn] V fun e w' => e = .returned (.int .i64 E) ∧ PlX w g d2 N2 gr r M q (fopC ⟨1, xf, xp, xn, xc, xs, xA, xkc, xks⟩) w' from by rw [← hd2, ← hE, ← hN2]; exact px_cut_l h (by have := HNJ.out; omega) xf xn))
            have HC2 := Lib.hid (fun (r : Dk) (N : Nat) (V : World) (h : PlX w g r N gr d (3 * j) q (fopC ⟨1, xf, xp, xn, xc, xs, xA, xkc, xks⟩) V) => (show Calls Try.prog 27 #[.pointer (some ⟨gr, 0, none⟩), .int .i64 xf, .int .i64 xn] V fun e w' => e = .returned (.int .i64 E) ∧ PlX w g r N gr d2 M2 q (fopC ⟨1, xf, xp, xn, xc, xs, xA, xkc, xks⟩) w' from by rw [← hd2, ← hE, ← hM2]; exact px_cut_r h (by have := HNJ.out; omega) xf xn))
            have HCL := Lib.hid (fun b c (V : World) (h : PlX w g (if b = true then d else d2) (if b = true then 3 * j else N2) gr (if c = true then d else d2) (if c = true then 3 * j else M2) q (fopC ⟨1, xf, xp, xn, xc, xs, xA, xkc, xks⟩) V) => plx_cells (x := ⟨1, xf, xp, xn, xc, xs, xA, xkc, xks⟩) h)
            have HNM := Lib.hid (show N2 ≤ 3 * (j + 1) ∧ M2 ≤ 3 * (j + 1) from by omega)
            clear hd2 hE hN2 hM2
            go_upto_region 13 with fail
            refine wp_region_noPanic ?_
            refine wp_region_any (by kernel_rfl) ?_
            refine facts_st (0 :: 1 :: 2 :: 3 :: 4 :: 5 :: 6 :: 7 :: 8 :: 9 :: 10 :: 11 :: 12 :: []) (fun i => match i with | 2 => [1] | 4 => [3] | 5 => [0, 2, 4] | 8 => [7] | 10 => [9] | 11 => [6, 8, 10] | 12 => [5, 11] | _ => []) 5 11 (fun i => match i with | 0 => (.pointer (some ⟨g, 0, none⟩) : Value) | 1 => (.pointer (some ⟨q, 1, none⟩) : Value) | 2 => (.int .i64 xf : Value) | 3 => (.pointer (some ⟨q, 3, none⟩) : Value) | 4 => (.int .i64 xn : Value) | 5 => (.int .i64 E : Value) | 6 => (.pointer (some ⟨gr, 0, none⟩) : Value) | 7 => (.pointer (some ⟨q, 1, none⟩) : Value) | 8 => (.int .i64 xf : Value) | 9 => (.pointer (some ⟨q, 3, none⟩) : Value) | 10 => (.int .i64 xn : Value) | 11 => (.int .i64 E : Value) | 12 => (.bool false : Value) | _ => undef) (fun b c W => PlX w g (if b then d else d2) (if b then 3 * j else N2) gr (if c then d else d2) (if c then 3 * j else M2) q (fopC ⟨1, xf, xp, xn, xc, xs, xA, xkc, xks⟩) W) _ _ _ 0 _ #[true, true, true, true, true, true, true, true, true, true, true, true, true] (by kernel_rfl) (by rfl) (by first | exact HX.out | exact plx_below HX.out (Below.refl _ _).drew) ?hstep ?hend
            case hstep => exact st13 _ (by kernel_rfl) _ (by rfl) (by rfl) (by rfl) (by rfl) HC1 HC2 HCL
            case hend =>
              intro x W b c hf hpf hqf hI
              have hl : x 12 = .bool false := hf 12 (by decide)
              obtain rfl : b = false := hpf (by decide)
              obtain rfl : c = false := hqf (by decide)
              rw [putsA_lit _ _ (0 :: 1 :: 2 :: 3 :: 4 :: 5 :: 6 :: 7 :: 8 :: 9 :: 10 :: 11 :: 12 :: []) ((56, 0) :: (57, 1) :: (58, 2) :: (59, 3) :: (60, 4) :: (61, 5) :: (62, 6) :: (63, 7) :: (64, 8) :: (65, 9) :: (66, 10) :: (67, 11) :: (68, 12) :: []) (by kernel_rfl)]
              simp only [setAll, ↓reduceIte, Nat.reduceAdd, Nat.reduceEqDiff]
              rw [hl]
              clear hf hl hpf hqf
              refine wpAny_done (by kernel_rfl) ?_ _
              refine NoPanic.normal ?_
              have HI := Lib.hid hI
              clear hI
              go_wp2
              go_meet
              case rel => exact ⟨g, d2, rfl, pl_more (plx_pl HI.out) HNM.out.1 HNM.out.2 HNJ.out HNJ.out, HJ2.out⟩
        have hb1 : (xk == 1) = false := by simpa using hk1
        by_cases hk2 : xk = 2
        · subst hk2
          as_aux_lemma =>
            obtain ⟨d2, hd2⟩ : ∃ d2, (syncD d xf).1 = d2 := ⟨_, rfl⟩
            obtain ⟨E, hE⟩ : ∃ E, (syncD d xf).2 = E := ⟨_, rfl⟩
            obtain ⟨N2, hN2⟩ : ∃ N2, 3 * j + 1 = N2 := ⟨_, rfl⟩
            obtain ⟨M2, hM2⟩ : ∃ M2, 3 * j + 1 = M2 := ⟨_, rfl⟩
            have HJ2 := Lib.hid (show Jd d2 from by rw [← hd2]; exact by have h := jd_step HJD.out (⟨2, xf, xp, xn, xc, xs, xA, xkc, xks⟩ : Fop); exact h)
            have HC1 := Lib.hid (fun (r : Dk) (M : Nat) (V : World) (h : PlX w g d (3 * j) gr r M q (fopC ⟨2, xf, xp, xn, xc, xs, xA, xkc, xks⟩) V) => (show Calls Try.prog 18 #[.pointer (some ⟨g, 0, none⟩), .int .i64 xf] V fun e w' => e = .returned (.int .i64 E) ∧ PlX w g d2 N2 gr r M q (fopC ⟨2, xf, xp, xn, xc, xs, xA, xkc, xks⟩) w' from by rw [← hd2, ← hE, ← hN2]; exact px_sync_l h (by have := HNJ.out; omega) xf))
            have HC2 := Lib.hid (fun (r : Dk) (N : Nat) (V : World) (h : PlX w g r N gr d (3 * j) q (fopC ⟨2, xf, xp, xn, xc, xs, xA, xkc, xks⟩) V) => (show Calls Try.prog 28 #[.pointer (some ⟨gr, 0, none⟩), .int .i64 xf] V fun e w' => e = .returned (.int .i64 E) ∧ PlX w g r N gr d2 M2 q (fopC ⟨2, xf, xp, xn, xc, xs, xA, xkc, xks⟩) w' from by rw [← hd2, ← hE, ← hM2]; exact px_sync_r h (by have := HNJ.out; omega) xf HJD.out))
            have HCL := Lib.hid (fun b c (V : World) (h : PlX w g (if b = true then d else d2) (if b = true then 3 * j else N2) gr (if c = true then d else d2) (if c = true then 3 * j else M2) q (fopC ⟨2, xf, xp, xn, xc, xs, xA, xkc, xks⟩) V) => plx_cells (x := ⟨2, xf, xp, xn, xc, xs, xA, xkc, xks⟩) h)
            have HNM := Lib.hid (show N2 ≤ 3 * (j + 1) ∧ M2 ≤ 3 * (j + 1) from by omega)
            clear hd2 hE hN2 hM2
            go_upto_region 16 with fail
            refine wp_region_noPanic ?_
            refine wp_region_any (by kernel_rfl) ?_
            refine facts_st (0 :: 1 :: 2 :: 3 :: 4 :: 5 :: 6 :: 7 :: 8 :: []) (fun i => match i with | 2 => [1] | 3 => [0, 2] | 6 => [5] | 7 => [4, 6] | 8 => [3, 7] | _ => []) 3 7 (fun i => match i with | 0 => (.pointer (some ⟨g, 0, none⟩) : Value) | 1 => (.pointer (some ⟨q, 1, none⟩) : Value) | 2 => (.int .i64 xf : Value) | 3 => (.int .i64 E : Value) | 4 => (.pointer (some ⟨gr, 0, none⟩) : Value) | 5 => (.pointer (some ⟨q, 1, none⟩) : Value) | 6 => (.int .i64 xf : Value) | 7 => (.int .i64 E : Value) | 8 => (.bool false : Value) | _ => undef) (fun b c W => PlX w g (if b then d else d2) (if b then 3 * j else N2) gr (if c then d else d2) (if c then 3 * j else M2) q (fopC ⟨2, xf, xp, xn, xc, xs, xA, xkc, xks⟩) W) _ _ _ 0 _ #[true, true, true, true, true, true, true, true, true] (by kernel_rfl) (by rfl) (by first | exact HX.out | exact plx_below HX.out (Below.refl _ _).drew) ?hstep ?hend
            case hstep => exact st16 _ (by kernel_rfl) _ (by rfl) (by rfl) (by rfl) (by rfl) HC1 HC2 HCL
            case hend =>
              intro x W b c hf hpf hqf hI
              have hl : x 8 = .bool false := hf 8 (by decide)
              obtain rfl : b = false := hpf (by decide)
              obtain rfl : c = false := hqf (by decide)
              rw [putsA_lit _ _ (0 :: 1 :: 2 :: 3 :: 4 :: 5 :: 6 :: 7 :: 8 :: []) ((71, 0) :: (72, 1) :: (73, 2) :: (74, 3) :: (75, 4) :: (76, 5) :: (77, 6) :: (78, 7) :: (79, 8) :: []) (by kernel_rfl)]
              simp only [setAll, ↓reduceIte, Nat.reduceAdd, Nat.reduceEqDiff]
              rw [hl]
              clear hf hl hpf hqf
              refine wpAny_done (by kernel_rfl) ?_ _
              refine NoPanic.normal ?_
              have HI := Lib.hid hI
              clear hI
              go_wp2
              go_meet
              case rel => exact ⟨g, d2, rfl, pl_more (plx_pl HI.out) HNM.out.1 HNM.out.2 HNJ.out HNJ.out, HJ2.out⟩
        have hb2 : (xk == 2) = false := by simpa using hk2
        by_cases hk3 : xk = 3
        · subst hk3
          as_aux_lemma =>
            have hxp : J64 xp := HFX.out.2.2.1
            unfold J64 at hxp
            have hr1 := kd_read (pl_kd (plx_pl HX.out)) xf xp xn hxp
            obtain ⟨z0', z1', z2', z3', _⟩ := plx_cells HX.out
            have z1 : W0.cell? ⟨q, 1, none⟩ = some (.int .i64 xf) := z1'
            have z2 : W0.cell? ⟨q, 2, none⟩ = some (.int .i64 xp) := z2'
            have z3 : W0.cell? ⟨q, 3, none⟩ = some (.int .i64 xn) := z3'
            have HR1 := Lib.hid hr1
            have HXP := Lib.hid hxp
            clear hr1 z0' z1' z2' z3' hxp
            go_wp2_with fail
            refine (HR1.out).mono ?_
            rintro e wa ⟨rfl, hb⟩
            have HXa := Lib.hid (plx_below HX.out hb)
            have hr2 := pl_read_r (plx_pl HXa.out) xf xp xn HXP.out
            obtain ⟨y0', y1', y2', y3', _⟩ := plx_cells HXa.out
            have y1 : wa.cell? ⟨q, 1, none⟩ = some (.int .i64 xf) := y1'
            have y2 : wa.cell? ⟨q, 2, none⟩ = some (.int .i64 xp) := y2'
            have y3 : wa.cell? ⟨q, 3, none⟩ = some (.int .i64 xn) := y3'
            have HR2 := Lib.hid hr2
            clear hr2 hb z1 z2 z3 y0' y1' y2' y3' HR1
            generalize readD d xf xp xn = RD at *
            go_wp2_with fail
            refine (HR2.out).mono ?_
            rintro e wb ⟨rfl, rfl⟩
            go_wp2
            go_meet
            case rel => exact ⟨g, d, rfl, pl_more (plx_pl HXa.out) (by omega) (by omega) HNJ.out HNJ.out, HJD.out⟩
        have hb3 : (xk == 3) = false := by simpa using hk3
        by_cases hk4 : xk = 4
        · subst hk4
          as_aux_lemma =>
            obtain ⟨ER, hER⟩ : ∃ ER, errF (⟨4, xf, xp, xn, xc, xs, xA, xkc, xks⟩ : Fop) = ER := ⟨_, rfl⟩
            have HER := Lib.hid (fun W => (show Calls Try.prog 30 #[fopV ⟨4, xf, xp, xn, xc, xs, xA, xkc, xks⟩] W fun e w' => e = .returned (.int .i64 ER) ∧ Below W.heap.size W w' from by rw [← hER]; exact error_any _ W HFX.out))
            obtain ⟨d2, hd2⟩ : ∃ d2, (armD d xn ER).1 = d2 := ⟨_, rfl⟩
            obtain ⟨E, hE⟩ : ∃ E, (armD d xn ER).2 = E := ⟨_, rfl⟩
            obtain ⟨N2, hN2⟩ : ∃ N2, 3 * j + 1 = N2 := ⟨_, rfl⟩
            obtain ⟨M2, hM2⟩ : ∃ M2, 3 * j + 1 = M2 := ⟨_, rfl⟩
            have HJ2 := Lib.hid (show Jd d2 from by rw [← hd2]; exact by have h := jd_step HJD.out (⟨4, xf, xp, xn, xc, xs, xA, xkc, xks⟩ : Fop); rw [← hER]; exact h)
            have HC1 := Lib.hid (fun (r : Dk) (M : Nat) (V : World) (h : PlX w g d (3 * j) gr r M q (fopC ⟨4, xf, xp, xn, xc, xs, xA, xkc, xks⟩) V) => (show Calls Try.prog 17 #[.pointer (some ⟨g, 0, none⟩), .int .i64 xn, .int .i64 ER] V fun e w' => e = .returned (.int .i64 E) ∧ PlX w g d2 N2 gr r M q (fopC ⟨4, xf, xp, xn, xc, xs, xA, xkc, xks⟩) w' from by rw [← hd2, ← hE, ← hN2]; exact px_arm_l h (by have := HNJ.out; omega) xn ER))
            have HC2 := Lib.hid (fun (r : Dk) (N : Nat) (V : World) (h : PlX w g r N gr d (3 * j) q (fopC ⟨4, xf, xp, xn, xc, xs, xA, xkc, xks⟩) V) => (show Calls Try.prog 31 #[.pointer (some ⟨gr, 0, none⟩), .int .i64 xn, .int .i64 ER] V fun e w' => e = .returned (.int .i64 E) ∧ PlX w g r N gr d2 M2 q (fopC ⟨4, xf, xp, xn, xc, xs, xA, xkc, xks⟩) w' from by rw [← hd2, ← hE, ← hM2]; exact px_arm_r h (by have := HNJ.out; omega) xn ER))
            obtain ⟨N3, hN3⟩ : ∃ N3, N2 + 1 = N3 := ⟨_, rfl⟩
            have HC3 := Lib.hid (fun (r : Dk) (M : Nat) (V : World) (h : PlX w g d2 N2 gr r M q (fopC ⟨4, xf, xp, xn, xc, xs, xA, xkc, xks⟩) V) => (show Calls Try.prog 17 #[.pointer (some ⟨g, 0, none⟩), .int .i64 0, .int .i64 32] V fun e w' => e = .returned (.int .i64 2) ∧ PlX w g d2 N3 gr r M q (fopC ⟨4, xf, xp, xn, xc, xs, xA, xkc, xks⟩) w' from by
              rw [← hN3]
              have h2 := px_arm_l h (by have := HNJ.out; omega) 0 32
              rw [show armD d2 0 32 = (d2, 2) from rfl] at h2
              exact h2))
            have HNM3 := Lib.hid (show N3 ≤ 3 * (j + 1) from by omega)
            clear hN3
            have HCL := Lib.hid (fun b c (V : World) (h : PlX w g (if b = true then d else d2) (if b = true then 3 * j else N2) gr (if c = true then d else d2) (if c = true then 3 * j else M2) q (fopC ⟨4, xf, xp, xn, xc, xs, xA, xkc, xks⟩) V) => plx_cells (x := ⟨4, xf, xp, xn, xc, xs, xA, xkc, xks⟩) h)
            have HNM := Lib.hid (show N2 ≤ 3 * (j + 1) ∧ M2 ≤ 3 * (j + 1) from by omega)
            clear hd2 hE hN2 hM2
            go_upto_region 24 with fail
            refine wp_region_noPanic ?_
            refine wp_region_any (by kernel_rfl) ?_
            refine facts_st (0 :: 1 :: 2 :: 3 :: 4 :: 5 :: 6 :: 7 :: 8 :: 9 :: 10 :: 11 :: 12 :: []) (fun i => match i with | 2 => [1] | 4 => [3] | 5 => [0, 2, 4] | 8 => [7] | 10 => [9] | 11 => [6, 8, 10] | 12 => [5, 11] | _ => []) 5 11 (fun i => match i with | 0 => (.pointer (some ⟨g, 0, none⟩) : Value) | 1 => (.pointer (some ⟨q, 3, none⟩) : Value) | 2 => (.int .i64 xn : Value) | 3 => (.agg #[.int .i64 4, .int .i64 xf, .int .i64 xp, .int .i64 xn, .int .u8 xc, .string xs, .slice xA xks.length xkc] : Value) | 4 => (.int .i64 ER : Value) | 5 => (.int .i64 E : Value) | 6 => (.pointer (some ⟨gr, 0, none⟩) : Value) | 7 => (.pointer (some ⟨q, 3, none⟩) : Value) | 8 => (.int .i64 xn : Value) | 9 => (.agg #[.int .i64 4, .int .i64 xf, .int .i64 xp, .int .i64 xn, .int .u8 xc, .string xs, .slice xA xks.length xkc] : Value) | 10 => (.int .i64 ER : Value) | 11 => (.int .i64 E : Value) | 12 => (.bool false : Value) | _ => undef) (fun b c W => PlX w g (if b then d else d2) (if b then 3 * j else N2) gr (if c then d else d2) (if c then 3 * j else M2) q (fopC ⟨4, xf, xp, xn, xc, xs, xA, xkc, xks⟩) W) _ _ _ 5 _ #[true, true, true, true, true, true, true, true, true, true, true, true, true, false, false, false, false, false] (by kernel_rfl) (by rfl) (by first | exact HX.out | exact plx_below HX.out (Below.refl _ _).drew) ?hstep ?hend
            case hstep => exact st24 _ (by kernel_rfl) _ (by rfl) (by rfl) (by rfl) (by rfl) HC1 HC2 HCL HER
            case hend =>
              intro x W b c hf hpf hqf hI
              have hl : x 12 = .bool false := hf 12 (by decide)
              obtain rfl : b = false := hpf (by decide)
              obtain rfl : c = false := hqf (by decide)
              rw [putsA_lit _ _ (0 :: 1 :: 2 :: 3 :: 4 :: 5 :: 6 :: 7 :: 8 :: 9 :: 10 :: 11 :: 12 :: []) ((114, 0) :: (115, 1) :: (116, 2) :: (117, 3) :: (118, 4) :: (119, 5) :: (120, 6) :: (121, 7) :: (122, 8) :: (123, 9) :: (124, 10) :: (125, 11) :: (126, 12) :: []) (by kernel_rfl)]
              simp only [setAll, ↓reduceIte, Nat.reduceAdd, Nat.reduceEqDiff]
              rw [hl]
              clear hf hl hpf hqf
              refine facts_st (13 :: 14 :: 15 :: 16 :: 17 :: []) (fun i => match i with | 14 => [13] | 15 => [13, 14] | 16 => [13, 15] | 17 => [13, 16] | _ => []) 15 99 (fun i => match i with | 13 => (.bool false : Value) | 14 => (.pointer (some ⟨g, 0, none⟩) : Value) | 15 => (.int .i64 2 : Value) | 16 => (.bool false : Value) | 17 => (.bool false : Value) | _ => undef) (fun b c W => PlX w g d2 (if b then N2 else N3) gr d2 M2 q (fopC ⟨4, xf, xp, xn, xc, xs, xA, xkc, xks⟩) W) _ _ _ 0 _ #[true, true, true, true, true, true, true, true, true, true, true, true, true, true, true, true, true, true] (by kernel_rfl) (by rfl) hI ?hstep ?hend
              case hstep => exact st24b _ (by kernel_rfl) _ (by rfl) (by rfl) (by rfl) HC3
              case hend =>
                intro x W b c hf hpf hqf hI
                have hl : x 17 = .bool false := hf 17 (by decide)
                obtain rfl : b = false := hpf (by decide)
                rw [putsA_lit _ _ (13 :: 14 :: 15 :: 16 :: 17 :: []) ((127, 13) :: (128, 14) :: (129, 15) :: (130, 16) :: (131, 17) :: []) (by kernel_rfl)]
                simp only [setAll, ↓reduceIte, Nat.reduceAdd, Nat.reduceEqDiff]
                rw [hl]
                clear hf hl hpf hqf
                refine wpAny_done (by kernel_rfl) ?_ _
                refine NoPanic.normal ?_
                have HI := Lib.hid hI
                clear hI
                go_wp2
                go_meet
                case rel => exact ⟨g, d2, rfl, pl_more (plx_pl HI.out) HNM3.out HNM.out.2 HNJ.out HNJ.out, HJ2.out⟩
        have hb4 : (xk == 4) = false := by simpa using hk4
        by_cases hk5 : xk = 5
        · subst hk5
          as_aux_lemma =>
            obtain ⟨d2, hd2⟩ : ∃ d2, (powerD d xn).1 = d2 := ⟨_, rfl⟩
            obtain ⟨E, hE⟩ : ∃ E, (powerD d xn).2 = E := ⟨_, rfl⟩
            obtain ⟨N2, hN2⟩ : ∃ N2, 3 * j = N2 := ⟨_, rfl⟩
            obtain ⟨M2, hM2⟩ : ∃ M2, 3 * j = M2 := ⟨_, rfl⟩
            have HJ2 := Lib.hid (show Jd d2 from by rw [← hd2]; exact by have h := jd_step HJD.out (⟨5, xf, xp, xn, xc, xs, xA, xkc, xks⟩ : Fop); exact h)
            have HC1 := Lib.hid (fun (r : Dk) (M : Nat) (V : World) (h : PlX w g d (3 * j) gr r M q (fopC ⟨5, xf, xp, xn, xc, xs, xA, xkc, xks⟩) V) => (show Calls Try.prog 20 #[.pointer (some ⟨g, 0, none⟩), .int .i64 xn] V fun e w' => e = .returned (.int .i64 E) ∧ PlX w g d2 N2 gr r M q (fopC ⟨5, xf, xp, xn, xc, xs, xA, xkc, xks⟩) w' from by rw [← hd2, ← hE, ← hN2]; exact px_power_l h xn))
            have HC2 := Lib.hid (fun (r : Dk) (N : Nat) (V : World) (h : PlX w g r N gr d (3 * j) q (fopC ⟨5, xf, xp, xn, xc, xs, xA, xkc, xks⟩) V) => (show Calls Try.prog 32 #[.pointer (some ⟨gr, 0, none⟩), .int .i64 xn] V fun e w' => e = .returned (.int .i64 E) ∧ PlX w g r N gr d2 M2 q (fopC ⟨5, xf, xp, xn, xc, xs, xA, xkc, xks⟩) w' from by rw [← hd2, ← hE, ← hM2]; exact px_power_r h xn))
            have HCL := Lib.hid (fun b c (V : World) (h : PlX w g (if b = true then d else d2) (if b = true then 3 * j else N2) gr (if c = true then d else d2) (if c = true then 3 * j else M2) q (fopC ⟨5, xf, xp, xn, xc, xs, xA, xkc, xks⟩) V) => plx_cells (x := ⟨5, xf, xp, xn, xc, xs, xA, xkc, xks⟩) h)
            have HNM := Lib.hid (show N2 ≤ 3 * (j + 1) ∧ M2 ≤ 3 * (j + 1) from by omega)
            clear hd2 hE hN2 hM2
            go_upto_region 27 with fail
            refine wp_region_noPanic ?_
            refine wp_region_any (by kernel_rfl) ?_
            refine facts_st (0 :: 1 :: 2 :: 3 :: 4 :: 5 :: 6 :: 7 :: 8 :: []) (fun i => match i with | 2 => [1] | 3 => [0, 2] | 6 => [5] | 7 => [4, 6] | 8 => [3, 7] | _ => []) 3 7 (fun i => match i with | 0 => (.pointer (some ⟨g, 0, none⟩) : Value) | 1 => (.pointer (some ⟨q, 3, none⟩) : Value) | 2 => (.int .i64 xn : Value) | 3 => (.int .i64 E : Value) | 4 => (.pointer (some ⟨gr, 0, none⟩) : Value) | 5 => (.pointer (some ⟨q, 3, none⟩) : Value) | 6 => (.int .i64 xn : Value) | 7 => (.int .i64 E : Value) | 8 => (.bool false : Value) | _ => undef) (fun b c W => PlX w g (if b then d else d2) (if b then 3 * j else N2) gr (if c then d else d2) (if c then 3 * j else M2) q (fopC ⟨5, xf, xp, xn, xc, xs, xA, xkc, xks⟩) W) _ _ _ 0 _ #[true, true, true, true, true, true, true, true, true] (by kernel_rfl) (by rfl) (by first | exact HX.out | exact plx_below HX.out (Below.refl _ _).drew) ?hstep ?hend
            case hstep => exact st27 _ (by kernel_rfl) _ (by rfl) (by rfl) (by rfl) (by rfl) HC1 HC2 HCL
            case hend =>
              intro x W b c hf hpf hqf hI
              have hl : x 8 = .bool false := hf 8 (by decide)
              obtain rfl : b = false := hpf (by decide)
              obtain rfl : c = false := hqf (by decide)
              rw [putsA_lit _ _ (0 :: 1 :: 2 :: 3 :: 4 :: 5 :: 6 :: 7 :: 8 :: []) ((134, 0) :: (135, 1) :: (136, 2) :: (137, 3) :: (138, 4) :: (139, 5) :: (140, 6) :: (141, 7) :: (142, 8) :: []) (by kernel_rfl)]
              simp only [setAll, ↓reduceIte, Nat.reduceAdd, Nat.reduceEqDiff]
              rw [hl]
              clear hf hl hpf hqf
              refine wpAny_done (by kernel_rfl) ?_ _
              refine NoPanic.normal ?_
              have HI := Lib.hid hI
              clear hI
              go_wp2
              go_meet
              case rel => exact ⟨g, d2, rfl, pl_more (plx_pl HI.out) HNM.out.1 HNM.out.2 HNJ.out HNJ.out, HJ2.out⟩
        have hb5 : (xk == 5) = false := by simpa using hk5
        by_cases hk6 : xk = 6
        · subst hk6
          as_aux_lemma =>
            have hkm : xks.length ≤ 4096 := HLX.out.2
            have hK : ∀ V, Below w.heap.size w V → BsAt V xA xks := fun V hb => ks_bs (ks_below HKS.out hb) hb.size
            have hKl : xks ≠ [] → ∀ a, xA = some a → a.block < w.heap.size := fun hne a ha => by
              rcases HKS.out with h | ⟨b2, o2, hA, hlt, _⟩
              · exact absurd h hne
              · have hA2 : xA = some ⟨b2, o2, none⟩ := hA
                rw [hA2] at ha; cases ha; exact hlt
            have HC2 := Lib.hid (px_crash_r HX.out xA xks xks.length xkc rfl (hK _ (pl_b (plx_pl HX.out))) hKl (by omega))
            have HC1 := Lib.hid (fun (r : Dk) (M : Nat) (V : World) (h : PlX w g d (3 * j) gr r M q (fopC ⟨6, xf, xp, xn, xc, xs, xA, xkc, xks⟩) V) => px_crash_l h xA xks xks.length xkc rfl (hK _ (pl_b (plx_pl h))) hKl (by omega))
            have z6 : W0.cell? ⟨q, 6, none⟩ = some (.slice xA xks.length xkc) := (plx_cells HX.out).2.2.2.2.2.2
            have HJ2 := Lib.hid (jd_crash d xks)
            clear hK hKl hkm
            go_wp2_with fail
            refine (HC2.out).mono ?_
            rintro e wa ⟨rfl, hx⟩
            have HXa := Lib.hid hx
            have y6 : wa.cell? ⟨q, 6, none⟩ = some (.slice xA xks.length xkc) := (plx_cells hx).2.2.2.2.2.2
            clear hx z6
            go_wp2_with fail
            refine (HC1.out _ _ _ HXa.out).mono ?_
            rintro e wb ⟨rfl, hx⟩
            have HXb := Lib.hid hx
            clear hx y6
            go_wp2
            go_meet
            case rel => exact ⟨g, _, rfl, pl_more (plx_pl HXb.out) (by omega) (by omega) HNJ.out HNJ.out, HJ2.out⟩
        have hb6 : (xk == 6) = false := by simpa using hk6
        by_cases hk7 : xk = 7
        · subst hk7
          as_aux_lemma =>
            have HCO := Lib.hid (pl_copy (plx_pl HX.out) (by have := HNJ.out; omega))
            have HOW := Lib.hid (old_write d (secS 122) (secS_size _))
            go_wp2_with fail
            refine (HCO.out).mono ?_
            rintro e wa ⟨g', rfl, h3⟩
            have H3 := Lib.hid (show Pl3 w g d (3 * j) g' d (3 * j) gr d (3 * j) wa from h3)
            clear h3 HCO
            go_wp2_with fail
            refine (pl3_l H3.out (fun S hS => crash_any S g d (3 * j) none [] 0 0 rfl _ (.inl rfl) (fun h => absurd rfl h) (by omega) hS)).mono ?_
            rintro e wb ⟨rfl, h3⟩
            have H4 := Lib.hid h3
            clear h3
            go_wp2_with fail
            refine (sector_any 122 _ (by omega)).mono ?_
            rintro e wc ⟨rfl, hb⟩
            have H5 := Lib.hid (pl3_below H4.out hb)
            clear hb
            go_wp2_with fail
            refine (pl3_l H5.out (fun S hS => write_any S g (crashD d []) (3 * j) (by have := HNJ.out; omega) 0 0 (secS 122) (by rw [secS_size]; omega) _ hS)).mono ?_
            rintro e wd ⟨rfl, h3⟩
            rw [HOW.out]
            have H6 := Lib.hid (pl3_pl h3)
            clear h3
            go_wp2
            go_meet
            case rel => exact ⟨g', d, rfl, pl_more H6.out (by omega) (by omega) HNJ.out HNJ.out, HJD.out⟩
        have hb7 : (xk == 7) = false := by simpa using hk7
        have hk37 : ¬ (xk = 3 ∨ xk = 7) := by omega
        as_aux_lemma =>
          have hbs := bytesF_size HLX.out
          obtain ⟨PL, hPL⟩ : ∃ PL, placeF (⟨xk, xf, xp, xn, xc, xs, xA, xkc, xks⟩ : Fop) = PL := ⟨_, rfl⟩
          obtain ⟨BY, hBY⟩ : ∃ BY, bytesF (⟨xk, xf, xp, xn, xc, xs, xA, xkc, xks⟩ : Fop) = BY := ⟨_, rfl⟩
          rw [hBY] at hbs
          have HPL := Lib.hid (fun W => (show Calls Try.prog 34 #[fopV ⟨xk, xf, xp, xn, xc, xs, xA, xkc, xks⟩] W fun e w' => e = .returned (.int .i64 PL) ∧ Below W.heap.size W w' from by rw [← hPL]; exact place_any _ W))
          have HBY := Lib.hid (fun W => (show Calls Try.prog 35 #[fopV ⟨xk, xf, xp, xn, xc, xs, xA, xkc, xks⟩] W fun e w' => e = .returned (.string BY) ∧ Below W.heap.size W w' from by rw [← hBY]; exact bytes_any _ W HFX.out))
          obtain ⟨d2, hd2⟩ : ∃ d2, (writeD d xf PL BY).1 = d2 := ⟨_, rfl⟩
          obtain ⟨E, hE⟩ : ∃ E, (writeD d xf PL BY).2 = E := ⟨_, rfl⟩
          obtain ⟨N2, hN2⟩ : ∃ N2, 3 * j + 1 = N2 := ⟨_, rfl⟩
          obtain ⟨M2, hM2⟩ : ∃ M2, 3 * j + 1 = M2 := ⟨_, rfl⟩
          have HJ2 := Lib.hid (show Jd d2 from by rw [← hd2]; exact by have h := jd_step HJD.out (⟨xk, xf, xp, xn, xc, xs, xA, xkc, xks⟩ : Fop); unfold stepD at h; simp only [if_neg hk1, if_neg hk2, if_neg hk37, if_neg hk4, if_neg hk5, if_neg hk6] at h; rw [← hPL, ← hBY]; exact h)
          have HC1 := Lib.hid (fun (r : Dk) (M : Nat) (V : World) (h : PlX w g d (3 * j) gr r M q (fopC ⟨xk, xf, xp, xn, xc, xs, xA, xkc, xks⟩) V) => (show Calls Try.prog 10 #[.pointer (some ⟨g, 0, none⟩), .int .i64 xf, .int .i64 PL, .string BY] V fun e w' => e = .returned (.int .i64 E) ∧ PlX w g d2 N2 gr r M q (fopC ⟨xk, xf, xp, xn, xc, xs, xA, xkc, xks⟩) w' from by rw [← hd2, ← hE, ← hN2]; exact px_write_l h (by have := HNJ.out; omega) xf PL BY (by omega)))
          have HC2 := Lib.hid (fun (r : Dk) (N : Nat) (V : World) (h : PlX w g r N gr d (3 * j) q (fopC ⟨xk, xf, xp, xn, xc, xs, xA, xkc, xks⟩) V) => (show Calls Try.prog 36 #[.pointer (some ⟨gr, 0, none⟩), .int .i64 xf, .int .i64 PL, .string BY] V fun e w' => e = .returned (.int .i64 E) ∧ PlX w g r N gr d2 M2 q (fopC ⟨xk, xf, xp, xn, xc, xs, xA, xkc, xks⟩) w' from by rw [← hd2, ← hE, ← hM2]; exact px_write_r h (by have := HNJ.out; omega) xf PL BY (by omega)))
          have HCL := Lib.hid (fun b c (V : World) (h : PlX w g (if b = true then d else d2) (if b = true then 3 * j else N2) gr (if c = true then d else d2) (if c = true then 3 * j else M2) q (fopC ⟨xk, xf, xp, xn, xc, xs, xA, xkc, xks⟩) V) => plx_cells (x := ⟨xk, xf, xp, xn, xc, xs, xA, xkc, xks⟩) h)
          have HNM := Lib.hid (show N2 ≤ 3 * (j + 1) ∧ M2 ≤ 3 * (j + 1) from by omega)
          clear hd2 hE hN2 hM2
          go_upto_region 10 with fail
          refine wp_region_noPanic ?_
          refine wp_region_any (by kernel_rfl) ?_
          refine facts_st (0 :: 1 :: 2 :: 3 :: 4 :: 5 :: 6 :: 7 :: 8 :: 9 :: 10 :: 11 :: 12 :: 13 :: 14 :: 15 :: 16 :: []) (fun i => match i with | 2 => [1] | 4 => [3] | 6 => [5] | 7 => [0, 2, 4, 6] | 10 => [9] | 12 => [11] | 14 => [13] | 15 => [8, 10, 12, 14] | 16 => [7, 15] | _ => []) 7 15 (fun i => match i with | 0 => (.pointer (some ⟨g, 0, none⟩) : Value) | 1 => (.pointer (some ⟨q, 1, none⟩) : Value) | 2 => (.int .i64 xf : Value) | 3 => (.agg #[.int .i64 xk, .int .i64 xf, .int .i64 xp, .int .i64 xn, .int .u8 xc, .string xs, .slice xA xks.length xkc] : Value) | 4 => (.int .i64 PL : Value) | 5 => (.agg #[.int .i64 xk, .int .i64 xf, .int .i64 xp, .int .i64 xn, .int .u8 xc, .string xs, .slice xA xks.length xkc] : Value) | 6 => (.string BY : Value) | 7 => (.int .i64 E : Value) | 8 => (.pointer (some ⟨gr, 0, none⟩) : Value) | 9 => (.pointer (some ⟨q, 1, none⟩) : Value) | 10 => (.int .i64 xf : Value) | 11 => (.agg #[.int .i64 xk, .int .i64 xf, .int .i64 xp, .int .i64 xn, .int .u8 xc, .string xs, .slice xA xks.length xkc] : Value) | 12 => (.int .i64 PL : Value) | 13 => (.agg #[.int .i64 xk, .int .i64 xf, .int .i64 xp, .int .i64 xn, .int .u8 xc, .string xs, .slice xA xks.length xkc] : Value) | 14 => (.string BY : Value) | 15 => (.int .i64 E : Value) | 16 => (.bool false : Value) | _ => undef) (fun b c W => PlX w g (if b then d else d2) (if b then 3 * j else N2) gr (if c then d else d2) (if c then 3 * j else M2) q (fopC ⟨xk, xf, xp, xn, xc, xs, xA, xkc, xks⟩) W) _ _ _ 0 _ #[true, true, true, true, true, true, true, true, true, true, true, true, true, true, true, true, true] (by kernel_rfl) (by rfl) (by first | exact HX.out | exact plx_below HX.out (Below.refl _ _).drew) ?hstep ?hend
          case hstep => exact st10 _ (by kernel_rfl) _ (by rfl) (by rfl) (by rfl) (by rfl) HC1 HC2 HCL HPL HBY
          case hend =>
            intro x W b c hf hpf hqf hI
            have hl : x 16 = .bool false := hf 16 (by decide)
            obtain rfl : b = false := hpf (by decide)
            obtain rfl : c = false := hqf (by decide)
            rw [putsA_lit _ _ (0 :: 1 :: 2 :: 3 :: 4 :: 5 :: 6 :: 7 :: 8 :: 9 :: 10 :: 11 :: 12 :: 13 :: 14 :: 15 :: 16 :: []) ((37, 0) :: (38, 1) :: (39, 2) :: (40, 3) :: (41, 4) :: (42, 5) :: (43, 6) :: (44, 7) :: (45, 8) :: (46, 9) :: (47, 10) :: (48, 11) :: (49, 12) :: (50, 13) :: (51, 14) :: (52, 15) :: (53, 16) :: []) (by kernel_rfl)]
            simp only [setAll, ↓reduceIte, Nat.reduceAdd, Nat.reduceEqDiff]
            rw [hl]
            clear hf hl hpf hqf
            refine wpAny_done (by kernel_rfl) ?_ _
            refine NoPanic.normal ?_
            have HI := Lib.hid hI
            clear hI
            go_wp2
            go_meet
            case rel => exact ⟨g, d2, rfl, pl_more (plx_pl HI.out) HNM.out.1 HNM.out.2 HNJ.out HNJ.out, HJ2.out⟩
      case rest =>
        obtain ⟨g3, d3, rfl, hpl3, hj3⟩ := hcut
        obtain ⟨_, _, ⟨LA, LC, hlc⟩, _⟩ := pl_ref hpl3
        obtain ⟨OF, hOF⟩ : ∃ OF, d3.off = OF := ⟨_, rfl⟩
        obtain ⟨OP, hOP⟩ : ∃ OP : Int, (d3.ops : Int) = OP := ⟨_, rfl⟩
        obtain ⟨LO, hLO⟩ : ∃ LO, d3.loose.length = LO := ⟨_, rfl⟩
        rw [hLO] at hlc
        have HRC := Lib.hid (fun V (h : Pl w g3 d3 (3 * (j + 1)) gr d3 (3 * (j + 1)) V ∧ V.cell? ⟨gr, 16, none⟩ = some (.slice LA LO LC)) => (show V.cell? ⟨gr, 20, none⟩ = some (.bool OF) ∧ V.cell? ⟨gr, 18, none⟩ = some (.int .i64 OP) ∧ V.cell? ⟨gr, 16, none⟩ = some (.slice LA LO LC) from by
          obtain ⟨k20, k18, _⟩ := pl_ref h.1
          rw [hOF] at k20
          rw [hOP] at k18
          exact ⟨k20, k18, h.2⟩))
        have HON := Lib.hid (fun V (h : Pl w g3 d3 (3 * (j + 1)) gr d3 (3 * (j + 1)) V ∧ V.cell? ⟨gr, 16, none⟩ = some (.slice LA LO LC)) => (show Calls Try.prog 21 #[.pointer (some ⟨g3, 0, none⟩)] V fun e w' => e = .returned (.bool !OF) ∧ V = w' from by rw [← hOF]; exact kd_on (pl_kd h.1)))
        have HOP := Lib.hid (fun V (h : Pl w g3 d3 (3 * (j + 1)) gr d3 (3 * (j + 1)) V ∧ V.cell? ⟨gr, 16, none⟩ = some (.slice LA LO LC)) => (show Calls Try.prog 19 #[.pointer (some ⟨g3, 0, none⟩)] V fun e w' => e = .returned (.int .i64 OP) ∧ V = w' from by rw [← hOP]; exact kd_ops (pl_kd h.1)))
        have HLO := Lib.hid (fun V (h : Pl w g3 d3 (3 * (j + 1)) gr d3 (3 * (j + 1)) V ∧ V.cell? ⟨gr, 16, none⟩ = some (.slice LA LO LC)) => (show Calls Try.prog 15 #[.pointer (some ⟨g3, 0, none⟩)] V fun e w' => e = .returned (.int .i64 (LO : Nat)) ∧ V = w' from by rw [← hLO]; exact kd_loose (pl_kd h.1)))
        have HS1 := Lib.hid (fun V (h : Pl w g3 d3 (3 * (j + 1)) gr d3 (3 * (j + 1)) V ∧ V.cell? ⟨gr, 16, none⟩ = some (.slice LA LO LC)) => (show Calls Try.prog 12 #[.pointer (some ⟨g3, 0, none⟩), .int .i64 (-1)] V fun e w' => e = .returned (.int .i64 0) ∧ V = w' from kd_size (pl_kd h.1) (-1)))
        have HS8 := Lib.hid (fun V (h : Pl w g3 d3 (3 * (j + 1)) gr d3 (3 * (j + 1)) V ∧ V.cell? ⟨gr, 16, none⟩ = some (.slice LA LO LC)) => (show Calls Try.prog 12 #[.pointer (some ⟨g3, 0, none⟩), .int .i64 8] V fun e w' => e = .returned (.int .i64 0) ∧ V = w' from kd_size (pl_kd h.1) 8))
        have HJ3 := Lib.hid hj3
        have HP3 := Lib.hid (And.intro hpl3 hlc)
        have HP3d := Lib.hid (show Pl w g3 d3 (3 * (j + 1)) gr d3 (3 * (j + 1)) wc.drew ∧ wc.drew.cell? ⟨gr, 16, none⟩ = some (.slice LA LO LC) from ⟨pl_below hpl3 (Below.refl _ _).drew, hlc⟩)
        clear hpl3 hlc hj3 hOF hOP hLO
        as_aux_lemma =>
          go_upto_region 38 with fail
          refine wp_region_noPanic ?_
          refine wp_region_any (by kernel_rfl) ?_
          refine facts_st (0 :: 1 :: 2 :: 3 :: 4 :: 5 :: 6 :: 7 :: 8 :: 9 :: 10 :: 11 :: 12 :: 13 :: 14 :: 15 :: 16 :: 17 :: 18 :: 19 :: 20 :: 21 :: 22 :: 23 :: 24 :: 25 :: 26 :: 27 :: 28 :: 29 :: 30 :: 31 :: 32 :: 33 :: []) (fun i => match i with | 1 => [0] | 3 => [2] | 4 => [3] | 5 => [4] | 6 => [1, 5] | 7 => [6] | 8 => [7] | 9 => [7, 8] | 10 => [7] | 11 => [7, 10] | 12 => [7, 11] | 13 => [7, 12] | 14 => [7, 9, 13] | 15 => [7, 14] | 16 => [15] | 17 => [16] | 18 => [16, 17] | 19 => [16] | 20 => [16, 19] | 21 => [16, 20] | 22 => [16, 21] | 23 => [16, 22] | 24 => [16, 18, 23] | 25 => [16, 24] | 26 => [25] | 27 => [26] | 28 => [26, 27] | 29 => [26] | 30 => [26, 29] | 31 => [26, 28, 30] | 32 => [26, 31] | 33 => [26, 32] | _ => []) 99 99 (fun i => match i with | 0 => (.pointer (some ⟨g3, 0, none⟩) : Value) | 1 => (.bool (!OF) : Value) | 2 => (.pointer (some ⟨gr, 0, none⟩) : Value) | 3 => (.pointer (some ⟨gr, 0, none⟩) : Value) | 4 => (.pointer (some ⟨gr, 20, none⟩) : Value) | 5 => (.bool OF : Value) | 6 => (.bool false : Value) | 7 => (.bool false : Value) | 8 => (.pointer (some ⟨g3, 0, none⟩) : Value) | 9 => (.int .i64 OP : Value) | 10 => (.pointer (some ⟨gr, 0, none⟩) : Value) | 11 => (.pointer (some ⟨gr, 0, none⟩) : Value) | 12 => (.pointer (some ⟨gr, 18, none⟩) : Value) | 13 => (.int .i64 OP : Value) | 14 => (.bool false : Value) | 15 => (.bool false : Value) | 16 => (.bool false : Value) | 17 => (.pointer (some ⟨g3, 0, none⟩) : Value) | 18 => (.int .i64 (LO : Nat) : Value) | 19 => (.pointer (some ⟨gr, 0, none⟩) : Value) | 20 => (.pointer (some ⟨gr, 0, none⟩) : Value) | 21 => (.pointer (some ⟨gr, 16, none⟩) : Value) | 22 => (.slice LA LO LC : Value) | 23 => (.int .i64 (LO : Nat) : Value) | 24 => (.bool false : Value) | 25 => (.bool false : Value) | 26 => (.bool false : Value) | 27 => (.pointer (some ⟨g3, 0, none⟩) : Value) | 28 => (.int .i64 0 : Value) | 29 => (.pointer (some ⟨g3, 0, none⟩) : Value) | 30 => (.int .i64 0 : Value) | 31 => (.int .i64 0 : Value) | 32 => (.bool false : Value) | 33 => (.bool false : Value) | _ => undef) (fun _ _ W => Pl w g3 d3 (3 * (j + 1)) gr d3 (3 * (j + 1)) W ∧ W.cell? ⟨gr, 16, none⟩ = some (.slice LA LO LC)) _ _ _ 0 _ #[true, true, true, true, true, true, true, true, true, true, true, true, true, true, true, true, true, true, true, true, true, true, true, true, true, true, true, true, true, true, true, true, true, true] (by kernel_rfl) (by rfl) (by first | exact HP3.out | exact HP3d.out) ?hstep ?hend
          case hstep => exact st38 _ (by kernel_rfl) _ (by rfl) (by rfl) (by rfl) HRC HON HOP HLO HS1 HS8
          case hend =>
            intro x W b c hf hpf hqf hI
            have hl : x 33 = .bool false := hf 33 (by decide)
            rw [putsA_lit _ _ (0 :: 1 :: 2 :: 3 :: 4 :: 5 :: 6 :: 7 :: 8 :: 9 :: 10 :: 11 :: 12 :: 13 :: 14 :: 15 :: 16 :: 17 :: 18 :: 19 :: 20 :: 21 :: 22 :: 23 :: 24 :: 25 :: 26 :: 27 :: 28 :: 29 :: 30 :: 31 :: 32 :: 33 :: []) ((172, 0) :: (173, 1) :: (174, 2) :: (175, 3) :: (176, 4) :: (177, 5) :: (178, 6) :: (179, 7) :: (180, 8) :: (181, 9) :: (182, 10) :: (183, 11) :: (184, 12) :: (185, 13) :: (186, 14) :: (187, 15) :: (188, 16) :: (189, 17) :: (190, 18) :: (191, 19) :: (192, 20) :: (193, 21) :: (194, 22) :: (195, 23) :: (196, 24) :: (197, 25) :: (198, 26) :: (199, 27) :: (200, 28) :: (201, 29) :: (202, 30) :: (203, 31) :: (204, 32) :: (205, 33) :: []) (by kernel_rfl)]
            simp only [setAll, ↓reduceIte, Nat.reduceAdd, Nat.reduceEqDiff]
            rw [hl]
            clear hf hl hpf hqf
            refine wpAny_done (by kernel_rfl) ?_ _
            refine NoPanic.normal ?_
            have HI := Lib.hid hI.1
            clear hI
            go_wp2
            go_loopw [206] (fun v wr => ∃ k : Nat, k ≤ 8 ∧ v = .int .i64 k ∧ Pl w g3 d3 (3 * (j + 1)) gr d3 (3 * (j + 1)) wr) (fun v _ => 8 - (intOf v).toNat)
            case atStart => exact ⟨0, by omega, rfl, HI.out⟩
            case round =>
              obtain ⟨k, hk, rfl, hpl⟩ := hrel
              by_cases hk8 : k < 8
              · have hkI : (k : Int) < 8 := by omega
                have h0k : (0 : Int) ≤ k := by omega
                have hwk : IntKind.i64.wrap ((k : Int) + 1) = (k : Int) + 1 := by rw [IntKind.wrap_i64]; omega
                obtain ⟨A3, c3, hc3⟩ := (pl_ref hpl).2.2.2 k hk8
                obtain ⟨LL, hLL⟩ : ∃ LL, (d3.fl k).length = LL := ⟨_, rfl⟩
                rw [hLL] at hc3
                have HSZ := Lib.hid (fun V (h : Pl w g3 d3 (3 * (j + 1)) gr d3 (3 * (j + 1)) V ∧ V.cell? ⟨gr, k, none⟩ = some (.slice A3 LL c3)) => (show Calls Try.prog 12 #[.pointer (some ⟨g3, 0, none⟩), .int .i64 (k : Nat)] V fun e w' => e = .returned (.int .i64 (LL : Nat)) ∧ V = w' from by
                  have hz := kd_size (pl_kd h.1) (k : Int)
                  rw [sizeD_of d3 h0k hkI, Int.toNat_natCast, hLL] at hz
                  exact hz))
                have HP4 := Lib.hid (And.intro hpl hc3)
                have HP4d := Lib.hid (show Pl w g3 d3 (3 * (j + 1)) gr d3 (3 * (j + 1)) wr.drew ∧ wr.drew.cell? ⟨gr, k, none⟩ = some (.slice A3 LL c3) from ⟨pl_below hpl (Below.refl _ _).drew, hc3⟩)
                clear hpl hc3 hLL
                go_upto_region 43 with fail
                refine wp_region_noPanic ?_
                refine wp_region_any (by kernel_rfl) ?_
                refine facts_st (0 :: 1 :: 2 :: 3 :: 4 :: 5 :: 6 :: 7 :: 8 :: 9 :: 10 :: []) (fun i => match i with | 2 => [0, 1] | 5 => [3] | 6 => [5] | 7 => [4, 6] | 8 => [7] | 9 => [8] | 10 => [2, 9] | _ => []) 99 99 (fun i => match i with | 0 => (.pointer (some ⟨g3, 0, none⟩) : Value) | 1 => (.int .i64 (k : Nat) : Value) | 2 => (.int .i64 (LL : Nat) : Value) | 3 => (.pointer (some ⟨gr, 0, none⟩) : Value) | 4 => (.int .i64 (k : Nat) : Value) | 5 => (.pointer (some ⟨gr, 0, none⟩) : Value) | 6 => (.pointer (some ⟨gr, 0, none⟩) : Value) | 7 => (.pointer (some ⟨gr, k, none⟩) : Value) | 8 => (.slice A3 LL c3 : Value) | 9 => (.int .i64 (LL : Nat) : Value) | 10 => (.bool false : Value) | _ => undef) (fun _ _ W => Pl w g3 d3 (3 * (j + 1)) gr d3 (3 * (j + 1)) W ∧ W.cell? ⟨gr, k, none⟩ = some (.slice A3 LL c3)) _ _ _ 0 _ #[true, true, true, true, true, true, true, true, true, true, true] (by kernel_rfl) (by rfl) (by first | exact HP4.out | exact HP4d.out) ?hstep ?hend
                case hstep => exact st43 _ (by kernel_rfl) _ (by rfl) (by rfl) (by rfl) (by rfl) HSZ hkI h0k
                case hend =>
                  intro x W b c hf hpf hqf hI
                  have hl : x 10 = .bool false := hf 10 (by decide)
                  rw [putsA_lit _ _ (0 :: 1 :: 2 :: 3 :: 4 :: 5 :: 6 :: 7 :: 8 :: 9 :: 10 :: []) ((209, 0) :: (210, 1) :: (211, 2) :: (212, 3) :: (213, 4) :: (214, 5) :: (215, 6) :: (216, 7) :: (217, 8) :: (218, 9) :: (219, 10) :: []) (by kernel_rfl)]
                  simp only [setAll, ↓reduceIte, Nat.reduceAdd, Nat.reduceEqDiff]
                  rw [hl]
                  clear hf hl hpf hqf
                  refine wpAny_done (by kernel_rfl) ?_ _
                  refine NoPanic.normal ?_
                  have HI := Lib.hid hI
                  clear hI
                  go_wp2
                  go_roundw
                  case rel => exact ⟨k + 1, by omega, by go_num, HI.out.1⟩
                  case measure => simp [intOf]; omega
              · obtain rfl : k = 8 := by omega
                have HE := Lib.hid hpl
                clear hpl
                go_wp2
                go_roundw
                case rel => exact ⟨j + 1, g3, d3, by omega, by go_num, rfl, HE.out, HJ3.out⟩
                case measure => simp [intOf]; omega
    · obtain rfl : j = n := by omega
      have HE := Lib.hid hpl
      clear hpl hjd
      go_wp2
      go_loopw [222] (fun v wr => ∃ k : Nat, k ≤ 8 ∧ v = .int .i64 k ∧ Pl w g d (3 * j) gr d (3 * j) wr) (fun v _ => 8 - (intOf v).toNat)
      case atStart => exact ⟨0, by omega, rfl, HE.out⟩
      case round =>
        obtain ⟨k, hk, rfl, hpl⟩ := hrel
        by_cases hk8 : k < 8
        · have hkI : (k : Int) < 8 := by omega
          have h0k : (0 : Int) ≤ k := by omega
          have hwk : IntKind.i64.wrap ((k : Int) + 1) = (k : Int) + 1 := by rw [IntKind.wrap_i64]; omega
          obtain ⟨A3, c3, hc3⟩ := (pl_ref hpl).2.2.2 k hk8
          obtain ⟨LL, hLL⟩ : ∃ LL, (d.fl k).length = LL := ⟨_, rfl⟩
          obtain ⟨MM, hMM⟩ : ∃ MM, min (LL : Int) 300 = MM := ⟨_, rfl⟩
          rw [hLL] at hc3
          have HR1 := Lib.hid (kd_read (pl_kd hpl) k 0 MM (by omega))
          have HPL := Lib.hid hpl
          clear hpl hLL
          go_wp2_with fail
          refine (HR1.out).mono ?_
          rintro e wa ⟨rfl, hb⟩
          have HPa := Lib.hid (pl_below HPL.out hb)
          have HR2 := Lib.hid (pl_read_r HPa.out k 0 MM (by omega))
          clear hb HR1
          generalize readD d k 0 MM = RD at *
          go_wp2_with fail
          refine (HR2.out).mono ?_
          rintro e wb ⟨rfl, rfl⟩
          go_wp2
          go_roundw
          case rel => exact ⟨k + 1, by omega, by go_num, HPa.out⟩
          case measure => simp [intOf]; omega
        · have HE := Lib.hid (pl_b hpl)
          clear hpl
          go_wp2
          go_ret
          exact ⟨by first | rfl | simp, HE.out⟩
end Go.Proofs.Ytffojihhjiogpaa
