/- What the document's examples of expressions come to: the calls; facts of a drawn region with a property each. Conditions: how the kids lie in memory. -/
import Derived.Test.YtkgpcodccpckeaaEg7
import Derived.Test.YtkgpcodccpckeaaEt11
import Derived.Test.YtkgpcodccpckeaaEv7b
import Derived.Test.YtkgpcodccpckeaaFacts
namespace Go.Proofs.Ytkgpcodccpckeaa
open Go Go.RowKit
set_option linter.unusedVariables false
set_option linter.unusedSimpArgs false
def leafT (v : Val) : XT := .mk 1 v ⟨#[]⟩ ⟨#[]⟩ 0 none 0 []
def t2 (op : Int) (g : Nat) (a b : Val) : XT := .mk op zV ⟨#[]⟩ ⟨#[]⟩ 0 (some ⟨g, 0, none⟩) 2 [leafT a, leafT b]
def t1 (op : Int) (g : Nat) (a : Val) : XT := .mk op zV ⟨#[]⟩ ⟨#[]⟩ 0 (some ⟨g, 0, none⟩) 1 [leafT a]
def t0 (op : Int) : XT := .mk op zV ⟨#[]⟩ ⟨#[]⟩ 0 none 0 []
theorem fits_z : Fits zV := ⟨by decide, by decide, by decide, by decide⟩
theorem int_leaf {W : World} {B : Nat} {v : Val} (h : Vk v) : InT W B (leafT v) := .mk 1 v ⟨#[]⟩ ⟨#[]⟩ 0 none 0 [] ⟨by omega, by omega⟩ h.1 ⟨by omega, by omega⟩ h.2 (Nat.zero_le _) (.inl rfl) (fun k hk => by cases hk)
theorem int_0 {W : World} {B : Nat} (op : Int) (h : 0 ≤ op ∧ op < 256) : InT W B (t0 op) := .mk op zV ⟨#[]⟩ ⟨#[]⟩ 0 none 0 [] h fits_z ⟨by omega, by omega⟩ (by decide) (Nat.zero_le _) (.inl rfl) (fun k hk => by cases hk)
theorem int_1 {W : World} {B g : Nat} (op : Int) (h : 0 ≤ op ∧ op < 256) (x : XT) (hk : Kids W B (some ⟨g, 0, none⟩) [x.ex]) (hx : InT W B x) : InT W B (.mk op zV ⟨#[]⟩ ⟨#[]⟩ 0 (some ⟨g, 0, none⟩) 1 [x]) := .mk op zV ⟨#[]⟩ ⟨#[]⟩ 0 _ 1 [x] h fits_z ⟨by omega, by omega⟩ (by decide) (by unfold maxLen; simp) hk (fun k hk => by rw [List.mem_singleton.1 hk]; exact hx)
theorem int_2 {W : World} {B g : Nat} (op : Int) (h : 0 ≤ op ∧ op < 256) (a b : Val) (ha : Vk a) (hb : Vk b) (hk : Kids W B (some ⟨g, 0, none⟩) [leafX a, leafX b]) : InT W B (t2 op g a b) := .mk op zV ⟨#[]⟩ ⟨#[]⟩ 0 _ 2 [leafT a, leafT b] h fits_z ⟨by omega, by omega⟩ (by decide) (by unfold maxLen; simp) hk (fun k hk => by
  rcases List.mem_cons.1 hk with rfl | hk
  · exact int_leaf ha
  · rw [List.mem_singleton.1 hk]; exact int_leaf hb)
theorem vk_n (n : Int) (h : -9223372036854775808 ≤ n ∧ n ≤ 9223372036854775807) : Vk (1, n, ⟨#[]⟩) := vk_int h
theorem vk_t (b : UInt8) : Vk (2, 0, ⟨#[b]⟩) := ⟨⟨show (0 : Int) ≤ 2 by decide, show (2 : Int) < 256 by decide, show (-9223372036854775808 : Int) ≤ 0 by decide, show (0 : Int) ≤ 9223372036854775807 by decide⟩, show (1 : Nat) ≤ 140737488351232 by decide⟩
set_option maxRecDepth 100000 in
set_option maxHeartbeats 2000000 in
theorem text15_any (s : ByteArray) (w : World) : Calls Try.prog 19 #[.string s] w fun e w' => e = .returned (.agg #[.int .u8 2, .int .i64 0, .string s]) ∧ Below w.heap.size w w' := by
  go_enter Try.func19, Try.ntmps19
  go_wp2
  first
    | exact bodyPost_ret (v := .agg #[.int .u8 2, .int .i64 0, .string s]) (by simp [results, Try.results19, go_sem]) rfl ⟨rfl, one_alloc⟩
    | (obtain ⟨e0, e1, e2, _, _, _⟩ := cell3 (blk3_set (Blk.new w 23 #[.int .u8 0, .int .i64 0, .string ⟨#[]⟩]) (.int .u8 2) (.int .i64 0) (.string s))
       exact bodyPost_ret (v := .agg #[.int .u8 2, .int .i64 0, .string s]) (by simp [results, Try.results19, go_sem, e0, e1, e2]) rfl ⟨rfl, below3_set one_alloc _ _ _⟩)
/-- Eval of an operation of two values, of one -/
theorem ev_2 (op : Int) (h : 0 ≤ op ∧ op < 256) (a b : Val) (ha : Vk a) (hb : Vk b) (g : Nat) (W : World) (hk : Kids W W.heap.size (some ⟨g, 0, none⟩) [leafX a, leafX b]) (z : Val × Int) (hz : evP [] (t2 op g a b) = z) :
    Calls Try.prog 15 #[exV (nodeX op (some ⟨g, 0, none⟩) 2 2), .slice none 0 0] W fun e w' => e = .returned (.tuple #[valV z.1, .int .i64 z.2]) ∧ Below W.heap.size W w' := by
  have h := eval_tree [] none 0 0 rfl (by omega) (fun x hx => by cases hx) (t2 op g a b) W (int_2 op h a b ha hb hk) (.inl rfl)
  rw [hz] at h
  exact h
theorem ev_1 (op : Int) (h : 0 ≤ op ∧ op < 256) (a : Val) (ha : Vk a) (g : Nat) (W : World) (hk : Kids W W.heap.size (some ⟨g, 0, none⟩) [leafX a]) (z : Val × Int) (hz : evP [] (t1 op g a) = z) :
    Calls Try.prog 15 #[exV (nodeX op (some ⟨g, 0, none⟩) 1 1), .slice none 0 0] W fun e w' => e = .returned (.tuple #[valV z.1, .int .i64 z.2]) ∧ Below W.heap.size W w' := by
  have h := eval_tree [] none 0 0 rfl (by omega) (fun x hx => by cases hx) (t1 op g a) W (int_1 op h (leafT a) hk (int_leaf ha)) (.inl rfl)
  rw [hz] at h
  exact h
/-- three rows of one value -/
def rw3 (k : Nat → Nat) (a b c : Val) : List Rw := [⟨some ⟨k 1, 0, none⟩, 1, [a]⟩, ⟨some ⟨k 2, 0, none⟩, 1, [b]⟩, ⟨some ⟨k 3, 0, none⟩, 1, [c]⟩]
theorem rws_3 {W : World} {g : Nat} {t : TypeId} {k : Nat → Nat} {a b c : Val} (h : Blk W g t #[.slice (some ⟨k 1, 0, none⟩) 1 1, .slice (some ⟨k 2, 0, none⟩) 1 1, .slice (some ⟨k 3, 0, none⟩) 1 1]) (ha : Vals W W.heap.size (some ⟨k 1, 0, none⟩) [a]) (hb : Vals W W.heap.size (some ⟨k 2, 0, none⟩) [b]) (hc : Vals W W.heap.size (some ⟨k 3, 0, none⟩) [c]) : Rws W W.heap.size (some ⟨g, 0, none⟩) (rw3 k a b c) := by
  have ok : ∀ (i : Nat) (v : Val), Vals W W.heap.size (some ⟨i, 0, none⟩) [v] → RwOk W W.heap.size ⟨some ⟨i, 0, none⟩, 1, [v]⟩ := fun i v hv => ⟨hv, by simp only [maxLen]; simp, Nat.le_refl _, fun e => by cases e⟩
  refine .inr ⟨g, 0, rfl, h.lt, fun j r hr => ?_⟩
  match j, hr with
  | 0, hr => simp [rw3] at hr; subst hr; exact ⟨h.cell 0, ok _ _ ha⟩
  | 1, hr => simp [rw3] at hr; subst hr; exact ⟨h.cell 1, ok _ _ hb⟩
  | 2, hr => simp [rw3] at hr; subst hr; exact ⟨h.cell 2, ok _ _ hc⟩
  | j + 3, hr => simp [rw3] at hr
theorem sum_3 (k : Nat → Nat) : foldC 21 (rw3 k (1, 1, ⟨#[]⟩) zV (1, 2, ⟨#[]⟩)) = ((1, 3, ⟨#[]⟩), 0) := by rfl
theorem sum_0 : foldC 21 [] = (zV, 0) := by rfl
theorem fold_3 (g : Nat) (k : Nat → Nat) (W : World) (hk : Kids W W.heap.size (some ⟨g, 0, none⟩) [colX 0]) (h : Rws W W.heap.size (some ⟨k 0, 0, none⟩) (rw3 k (1, 1, ⟨#[]⟩) zV (1, 2, ⟨#[]⟩))) :
    Calls Try.prog 20 #[exV (nodeX 21 (some ⟨g, 0, none⟩) 1 1), .slice (some ⟨k 0, 0, none⟩) 3 3, .int .i64 1] W fun e w' => e = .returned (.tuple #[.agg #[.int .u8 1, .int .i64 3, .string ⟨#[]⟩], .int .i64 0]) ∧ Below W.heap.size W w' := by
  have h := fold_tree (rw3 k (1, 1, ⟨#[]⟩) zV (1, 2, ⟨#[]⟩)) (some ⟨k 0, 0, none⟩) 3 3 1 rfl (by omega) (fun r hr => by
    unfold rw3 at hr
    simp only [List.mem_cons, List.not_mem_nil, or_false] at hr
    rcases hr with rfl | rfl | rfl
    · exact ⟨by simp, fun x hx => by rw [List.mem_singleton.1 hx]; exact vk_n 1 (by omega)⟩
    · exact ⟨by simp, fun x hx => by rw [List.mem_singleton.1 hx]; exact vk_z⟩
    · exact ⟨by simp, fun x hx => by rw [List.mem_singleton.1 hx]; exact vk_n 2 (by omega)⟩) (opT 21 (some ⟨g, 0, none⟩) 1) W (int_1 21 (by omega) colT hk (.mk 2 zV ⟨#[]⟩ ⟨#[]⟩ 0 none 0 [] ⟨by omega, by omega⟩ fits_z ⟨by omega, by omega⟩ (by decide) (Nat.zero_le _) (.inl rfl) (fun k hk => by cases hk))) h
  rw [foldP_col 21 _ _ _ (.inr (.inl rfl)), sum_3] at h
  exact h
theorem fold_0 (g : Nat) (W : World) (hk : Kids W W.heap.size (some ⟨g, 0, none⟩) [colX 0]) :
    Calls Try.prog 20 #[exV (nodeX 21 (some ⟨g, 0, none⟩) 1 1), .slice none 0 0, .int .i64 1] W fun e w' => e = .returned (.tuple #[.agg #[.int .u8 0, .int .i64 0, .string ⟨#[]⟩], .int .i64 0]) ∧ Below W.heap.size W w' := by
  have h := fold_tree [] none 0 0 1 rfl (by omega) (fun r hr => by cases hr) (opT 21 (some ⟨g, 0, none⟩) 1) W (int_1 21 (by omega) colT hk (.mk 2 zV ⟨#[]⟩ ⟨#[]⟩ 0 none 0 [] ⟨by omega, by omega⟩ fits_z ⟨by omega, by omega⟩ (by decide) (Nat.zero_le _) (.inl rfl) (fun k hk => by cases hk))) (.inl rfl)
  rw [foldP_col 21 _ _ _ (.inr (.inl rfl)), sum_0] at h
  exact h
theorem fold_c (W : World) : Calls Try.prog 20 #[exV (nodeX 20 none 0 0), .slice none 0 0, .int .i64 0] W fun e w' => e = .returned (.tuple #[.agg #[.int .u8 1, .int .i64 0, .string ⟨#[]⟩], .int .i64 0]) ∧ Below W.heap.size W w' := by
  have h := fold_tree [] none 0 0 0 rfl (by omega) (fun r hr => by cases hr) (t0 20) W (int_0 20 (by omega)) (.inl rfl)
  rw [show foldP 0 [] (t0 20) = ((1, 0, ⟨#[]⟩), 0) by rfl] at h
  exact h
theorem type_c (W : World) : Calls Try.prog 11 #[exV (nodeX 20 none 0 0), .slice none 0 0, .bool false] W fun e w' => e = .returned (.tuple #[.int .u8 0, .int .i64 151]) ∧ Below W.heap.size W w' := by
  have h := type_tree [] none 0 0 rfl (t0 20) W false (int_0 20 (by omega)) (.inl rfl)
  rw [show typeP [] (t0 20) false = (0, 151) by rfl] at h
  exact h
theorem type_s (g : Nat) (W : World) (hk : Kids W W.heap.size (some ⟨g, 0, none⟩) [nodeX 20 none 0 0]) : Calls Try.prog 11 #[exV (nodeX 21 (some ⟨g, 0, none⟩) 1 1), .slice none 0 0, .bool true] W fun e w' => e = .returned (.tuple #[.int .u8 0, .int .i64 151]) ∧ Below W.heap.size W w' := by
  have h := type_tree [] none 0 0 rfl (.mk 21 zV ⟨#[]⟩ ⟨#[]⟩ 0 (some ⟨g, 0, none⟩) 1 [t0 20]) W true (int_1 21 (by omega) (t0 20) hk (int_0 20 (by omega))) (.inl rfl)
  rw [show typeP [] (.mk 21 zV ⟨#[]⟩ ⟨#[]⟩ 0 (some ⟨g, 0, none⟩) 1 [t0 20]) true = (0, 151) by rfl] at h
  exact h
/-- what an operation's blocks hold -/
inductive Pk where
  | no
  | is (v : Val) (e : Int)
  | kids (l : List Ex)
  | row (l : List Val)
  | rows (a b c : Val)
def prP : Pk → (Nat → Nat) → World → Prop
  | .no, _, _ => True
  | .is v e, k, W => Ih W (k 0) (k 1) v e
  | .kids l, k, W => Kids W W.heap.size (some ⟨k 0, 0, none⟩) l
  | .row l, k, W => Vals W W.heap.size (some ⟨k 0, 0, none⟩) l
  | .rows a b c, k, W => Rws W W.heap.size (some ⟨k 0, 0, none⟩) (rw3 k a b c)
theorem prp_step {p : Pk} {k : Nat → Nat} {W W' : World} (h : prP p k W) (hb : Below W.heap.size W W') : prP p k W' := by
  cases p with
  | no => trivial
  | is v e => exact ih_step h hb
  | kids l => exact kids_step h hb
  | row l => exact vals_step h hb
  | rows a b c => exact rws_step h hb
def kk4 (a b c d : Nat) : Nat → Nat
  | 0 => a
  | 1 => b
  | 2 => c
  | _ => d
def Fk (mk : Nat → (Nat → Nat) → Value) (pt : Nat → Pk) (i : Nat) (v : Value) (W : World) : Prop := ∃ k, v = mk i k ∧ prP (pt i) k W
theorem fk_step {mk : Nat → (Nat → Nat) → Value} {pt : Nat → Pk} : ∀ i v W W', Fk mk pt i v W → Below W.heap.size W W' → Fk mk pt i v W' := by
  intro i v W W' h hb
  obtain ⟨k, h1, h2⟩ := h
  exact ⟨k, h1, prp_step h2 hb⟩
end Go.Proofs.Ytkgpcodccpckeaa
