/- Parts of a netlist, plain: which may be; sets of nodes; groups; how they are dealt. -/
import Derived.Test.YtkgonnnpoldcoaaGLa
namespace Go.Proofs.Ytkgonnnpoldcoaa
open Go.RowKit Lg Nl
set_option linter.unusedVariables false

/-- what goes into a delay is one -/
structure OkD (l : List Nd) : Prop where
  ok : Ok l
  d : ∀ x ∈ l, x.k = 8 → x.ins.length = 1
theorem may_okd {l : List Nd} {nets : List Int} {pt : Int} (h : mayN l nets pt = true) : OkD l := by
  refine ⟨may_ok h, fun x hx hk => ?_⟩
  unfold mayN at h
  rw [Bool.and_eq_true, Bool.and_eq_true, Bool.and_eq_true, List.all_eq_true, List.all_eq_true] at h
  have h4 := h.2 x hx
  unfold nodeB at h4
  simp only [hk] at h4
  simp [wsOf_len] at h4
  exact h4.1
def ofAt (of : List Int) (z : Int) : Int := of.getD z.toNat 0
def in0 (x : Nd) : Int := x.ins.getD 0 0
def aStep (x : Nd) (a c i k b : Int) : Int := if x.k = 8 ∧ i ≠ k ∧ a = i ∧ c = k ∧ (b = 0 ∨ x.tm < b) then x.tm else b
/-- how soon one part reaches another one by the first nodes -/
def aTo (l : List Nd) (of : List Int) (i k : Int) : Nat → Int
  | 0 => 0
  | m + 1 => aStep (ndAt l m) (ofAt of (in0 (ndAt l m))) (ofAt of (m : Nat)) i k (aTo l of i k m)
def aheadN (l : List Nd) (of : List Int) (i k : Int) : Int := aTo l of i k l.length
def aheadL (l : List Nd) (of : List Int) (N : Nat) : List (List Int) := (List.range N).map fun (i : Nat) => (List.range N).map fun (k : Nat) => aheadN l of (i : Int) (k : Int)
def Tog (l : List Nd) (of : List Int) : Prop := ∀ i, i < l.length → (ndAt l i).k ≠ 8 → ∀ z ∈ (ndAt l i).ins, ofAt of z = ofAt of (i : Nat)
/-- parts may be -/
structure PtsOk (l : List Nd) (of : List Int) (N : Int) (ah : List (List Int)) : Prop where
  lo : 1 ≤ N
  hi : N ≤ 64
  n : of.length = l.length
  r : ∀ z ∈ of, 0 ≤ z ∧ z < N
  u : ∀ k : Int, 0 ≤ k → k < N → k ∈ of
  t : Tog l of
  a : ah = aheadL l of N.toNat
theorem aheadL_len (l : List Nd) (of : List Int) (N : Nat) : (aheadL l of N).length = N := by simp [aheadL]
theorem ofAt_mem {of : List Int} {z : Int} {n : Nat} (h : inB n z = true) (hn : of.length = n) : ofAt of z ∈ of := by
  simp [inB] at h
  have hz : z.toNat < of.length := by omega
  unfold ofAt
  rw [List.getD_eq_getElem?_getD, List.getElem?_eq_getElem hz]
  exact List.getElem_mem hz
theorem ofAt_nat {of : List Int} {i : Nat} (h : i < of.length) : ofAt of (i : Nat) = of[i] := by
  unfold ofAt
  rw [Int.toNat_natCast, List.getD_eq_getElem?_getD, List.getElem?_eq_getElem h]; rfl

/-! ### sets of nodes -/
def rtF (f : Nat → Nat) : Nat → Nat → Nat
  | 0, i => i
  | k + 1, i => if f i < i then rtF f k (f i) else i
theorem rtF_any (f : Nat → Nat) : ∀ (k k' i : Nat), i ≤ k → i ≤ k' → rtF f k i = rtF f k' i
  | 0, 0, i, _, _ => rfl
  | 0, k' + 1, i, h, _ => by
    have h0 : i = 0 := by omega
    subst h0
    show 0 = if f 0 < 0 then _ else 0
    rw [if_neg (Nat.not_lt_zero _)]
  | k + 1, 0, i, _, h => by
    have h0 : i = 0 := by omega
    subst h0
    show (if f 0 < 0 then _ else 0) = 0
    rw [if_neg (Nat.not_lt_zero _)]
  | k + 1, k' + 1, i, h, h' => by
    show (if f i < i then rtF f k (f i) else i) = if f i < i then rtF f k' (f i) else i
    by_cases hl : f i < i
    · rw [if_pos hl, if_pos hl]; exact rtF_any f k k' (f i) (by omega) (by omega)
    · rw [if_neg hl, if_neg hl]
/-- the lowest node of a node's set -/
def rt (f : Nat → Nat) (i : Nat) : Nat := rtF f i i
theorem rt_lt {f : Nat → Nat} {i : Nat} (h : f i < i) : rt f i = rt f (f i) := by
  unfold rt
  obtain ⟨k, rfl⟩ : ∃ k, i = k + 1 := ⟨i - 1, by omega⟩
  show (if f (k + 1) < k + 1 then rtF f k (f (k + 1)) else k + 1) = _
  rw [if_pos h]
  exact rtF_any f _ _ _ (by omega) (Nat.le_refl _)
theorem rt_ge {f : Nat → Nat} {i : Nat} (h : ¬ f i < i) : rt f i = i := by
  unfold rt
  cases i with
  | zero => rfl
  | succ k => show (if f (k + 1) < k + 1 then rtF f k (f (k + 1)) else k + 1) = _; rw [if_neg h]
theorem rt_le (f : Nat → Nat) (i : Nat) : rt f i ≤ i := by
  induction i using Nat.strongRecOn with
  | ind i ih =>
    by_cases h : f i < i
    · rw [rt_lt h]; exact Nat.le_trans (ih _ h) (Nat.le_of_lt h)
    · rw [rt_ge h]; exact Nat.le_refl _
theorem rt_fix {f : Nat → Nat} (hf : ∀ i, f i ≤ i) (i : Nat) : f (rt f i) = rt f i := by
  induction i using Nat.strongRecOn with
  | ind i ih =>
    by_cases h : f i < i
    · rw [rt_lt h]; exact ih _ h
    · rw [rt_ge h]; have := hf i; omega
theorem rt_root {f : Nat → Nat} {i : Nat} (h : f i = i) : rt f i = i := rt_ge (by omega)
theorem rt_idem {f : Nat → Nat} (hf : ∀ i, f i ≤ i) (i : Nat) : rt f (rt f i) = rt f i := rt_root (rt_fix hf i)
theorem upd_le {f : Nat → Nat} (hf : ∀ i, f i ≤ i) {n v : Nat} (h : v ≤ n) : ∀ i, upd f n v i ≤ i := fun i => by
  unfold upd; split
  · rename_i e; omega
  · exact hf i
theorem rt_halve {f : Nat → Nat} (hf : ∀ i, f i ≤ i) (n : Nat) (i : Nat) : rt (upd f n (f (f n))) i = rt f i := by
  induction i using Nat.strongRecOn with
  | ind i ih =>
    by_cases e : i = n
    · subst e
      have h1 := hf i
      have h2 := hf (f i)
      by_cases h : f i < i
      · have h3 : upd f i (f (f i)) i < i := by rw [upd_at]; omega
        rw [rt_lt h3, upd_at, ih _ (by omega), rt_lt h]
        by_cases h4 : f (f i) < f i
        · rw [rt_lt h4]
        · rw [show f (f i) = f i by omega]
      · have h0 : f i = i := by omega
        rw [rt_ge h, rt_ge (by rw [upd_at, h0, h0]; omega)]
    · by_cases h : f i < i
      · have h3 : upd f n (f (f n)) i < i := by rw [upd_ne _ _ e]; exact h
        rw [rt_lt h3, upd_ne _ _ e, ih _ h, rt_lt h]
      · rw [rt_ge h, rt_ge (by rw [upd_ne _ _ e]; exact h)]
theorem rt_join {f : Nat → Nat} {hi lo : Nat} (h1 : f lo = lo) (h2 : f hi = hi) (hl : lo ≤ hi) (i : Nat) : rt (upd f hi lo) i = if rt f i = hi then lo else rt f i := by
  induction i using Nat.strongRecOn with
  | ind i ih =>
    by_cases e : i = hi
    · subst e
      rw [rt_root h2, if_pos rfl]
      by_cases h : lo < i
      · rw [rt_lt (by rw [upd_at]; exact h), upd_at, ih _ h, rt_root h1, if_neg (by omega)]
      · rw [rt_ge (by rw [upd_at]; exact h)]; omega
    · by_cases h : f i < i
      · rw [rt_lt (by rw [upd_ne _ _ e]; exact h), upd_ne _ _ e, ih _ h, rt_lt h]
      · rw [rt_ge (by rw [upd_ne _ _ e]; exact h), rt_ge h, if_neg e]
/-- what a join leaves: sets that were one are one, and these two -/
theorem rt_joined {f : Nat → Nat} (hf : ∀ i, f i ≤ i) (a b : Nat) {g : Nat → Nat} (hg : ∀ i, rt g i = rt f i) (hgl : ∀ i, g i ≤ i) :
    (∀ i, upd g (max (rt f a) (rt f b)) (min (rt f a) (rt f b)) i ≤ i) ∧ (∀ i j, rt f i = rt f j → rt (upd g (max (rt f a) (rt f b)) (min (rt f a) (rt f b))) i = rt (upd g (max (rt f a) (rt f b)) (min (rt f a) (rt f b))) j) ∧ rt (upd g (max (rt f a) (rt f b)) (min (rt f a) (rt f b))) a = rt (upd g (max (rt f a) (rt f b)) (min (rt f a) (rt f b))) b := by
  have fa : g (rt f a) = rt f a := by rw [← hg a]; exact rt_fix hgl a
  have fb : g (rt f b) = rt f b := by rw [← hg b]; exact rt_fix hgl b
  have h1 : g (min (rt f a) (rt f b)) = min (rt f a) (rt f b) := by rcases Nat.le_total (rt f a) (rt f b) with h | h <;> simp [Nat.min_eq_left, Nat.min_eq_right, h, fa, fb]
  have h2 : g (max (rt f a) (rt f b)) = max (rt f a) (rt f b) := by rcases Nat.le_total (rt f a) (rt f b) with h | h <;> simp [Nat.max_eq_left, Nat.max_eq_right, h, fa, fb]
  have hl : min (rt f a) (rt f b) ≤ max (rt f a) (rt f b) := by omega
  have J := fun i => rt_join h1 h2 hl i
  refine ⟨upd_le hgl hl, fun i j e => by rw [J, J, hg, hg, e], ?_⟩
  rw [J, J, hg, hg]
  split <;> split <;> omega

/-! ### groups -/
def nR (ρ : Nat → Nat) : Nat → Nat
  | 0 => 0
  | i + 1 => nR ρ i + if ρ i = i then 1 else 0
def clR (ρ : Nat → Nat) (j : Nat) : Nat := nR ρ (ρ j)
theorem nR_mono (ρ : Nat → Nat) {i j : Nat} (h : i ≤ j) : nR ρ i ≤ nR ρ j := by
  induction h with
  | refl => exact Nat.le_refl _
  | step _ ih => exact Nat.le_trans ih (Nat.le_add_right _ _)
theorem nR_le (ρ : Nat → Nat) (i : Nat) : nR ρ i ≤ i := by
  induction i with
  | zero => exact Nat.le_refl _
  | succ i ih => show nR ρ i + _ ≤ i + 1; split <;> omega
theorem clR_lt {ρ : Nat → Nat} (h1 : ∀ j, ρ j ≤ j) (h2 : ∀ j, ρ (ρ j) = ρ j) {j i : Nat} (h : j < i) : clR ρ j < nR ρ i := by
  have h3 : nR ρ (ρ j + 1) = nR ρ (ρ j) + 1 := by show nR ρ (ρ j) + _ = _; rw [if_pos (h2 j)]
  have h4 := nR_mono ρ (i := ρ j + 1) (j := i) (by have := h1 j; omega)
  unfold clR; omega
theorem clR_all {ρ : Nat → Nat} (i : Nat) : ∀ k, k < nR ρ i → ∃ j, j < i ∧ ρ j = j ∧ clR ρ j = k := by
  induction i with
  | zero => intro k hk; exact absurd hk (Nat.not_lt_zero _)
  | succ i ih =>
    intro k hk
    by_cases h : ρ i = i
    · have e : nR ρ (i + 1) = nR ρ i + 1 := by show nR ρ i + _ = _; rw [if_pos h]
      by_cases hk2 : k < nR ρ i
      · obtain ⟨j, a, b, c⟩ := ih k hk2; exact ⟨j, by omega, b, c⟩
      · exact ⟨i, Nat.lt_succ_self _, h, by unfold clR; rw [h]; omega⟩
    · have e : nR ρ (i + 1) = nR ρ i := by show nR ρ i + _ = _; rw [if_neg h]; rfl
      obtain ⟨j, a, b, c⟩ := ih k (by omega); exact ⟨j, by omega, b, c⟩
/-- the nodes of a class among the first ones -/
def glR (cl : Nat → Nat) (i k : Nat) : List Nat := (List.range i).filter fun j => decide (cl j = k)
theorem glR_succ (cl : Nat → Nat) (i k : Nat) : glR cl (i + 1) k = if cl i = k then glR cl i k ++ [i] else glR cl i k := by
  unfold glR; rw [List.range_succ, List.filter_append]
  split
  · rename_i h; simp [h]
  · rename_i h; simp [h]
theorem glR_mem {cl : Nat → Nat} {i k j : Nat} : j ∈ glR cl i k ↔ j < i ∧ cl j = k := by unfold glR; rw [List.mem_filter, List.mem_range, decide_eq_true_iff]
theorem glR_len (cl : Nat → Nat) (i k : Nat) : (glR cl i k).length ≤ i := by
  have := List.length_filter_le (fun j => decide (cl j = k)) (List.range i)
  rw [List.length_range] at this; exact this
theorem glR_none {cl : Nat → Nat} {i k : Nat} (h : ∀ j, j < i → cl j ≠ k) : glR cl i k = [] := by
  unfold glR; rw [List.filter_eq_nil_iff]
  intro j hj; rw [decide_eq_true_iff]; exact h j (List.mem_range.1 hj)
end Go.Proofs.Ytkgonnnpoldcoaa
