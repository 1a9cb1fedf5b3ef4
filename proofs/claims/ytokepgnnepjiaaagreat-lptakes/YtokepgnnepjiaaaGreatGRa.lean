/- Texts RA RB RC RD, joined: what each part says stands ahead of it. -/
import Derived.Test.YtokepgnnepjiaaaGreatGLa
import Derived.Test.YtokepgnnepjiaaaGreatGLb
import Derived.BigRegion
/- Parts of a netlist, plain: which may be; sets of nodes; groups; how they are dealt. -/
namespace Go.Proofs.YtokepgnnepjiaaaGreat
set_option maxRecDepth 100000
open Go.RowKit Lg Nl
set_option linter.unusedVariables false

/-- what goes into a delay is one -/
structure OkD (l : List Nd) : Prop where
  ok : Ok l
  d : ∀ x ∈ l, x.k = 8 → x.ins.length = 1
theorem may_okd {l : List Nd} {nets : List Int} {pt : Int} (h : mayN l nets pt = true) : OkD l := by
  refine ⟨may_ok h, fun x hx hk => ?_⟩
  unfold mayN at h
  rw [Bool.and_eq_true, Bool.and_eq_true, Bool.and_eq_true, List.all_eq_true, List.all_eq_true] at h
  have h4 := h.2 x hx
  unfold nodeB at h4
  simp only [hk] at h4
  simp [wsOf_len] at h4
  exact h4.1
def ofAt (of : List Int) (z : Int) : Int := of.getD z.toNat 0
def in0 (x : Nd) : Int := x.ins.getD 0 0
def aStep (x : Nd) (a c i k b : Int) : Int := if x.k = 8 ∧ i ≠ k ∧ a = i ∧ c = k ∧ (b = 0 ∨ x.tm < b) then x.tm else b
/-- how soon one part reaches another one by the first nodes -/
def aTo (l : List Nd) (of : List Int) (i k : Int) : Nat → Int
  | 0 => 0
  | m + 1 => aStep (ndAt l m) (ofAt of (in0 (ndAt l m))) (ofAt of (m : Nat)) i k (aTo l of i k m)
def aheadN (l : List Nd) (of : List Int) (i k : Int) : Int := aTo l of i k l.length
def aheadL (l : List Nd) (of : List Int) (N : Nat) : List (List Int) := (List.range N).map fun (i : Nat) => (List.range N).map fun (k : Nat) => aheadN l of (i : Int) (k : Int)
def Tog (l : List Nd) (of : List Int) : Prop := ∀ i, i < l.length → (ndAt l i).k ≠ 8 → ∀ z ∈ (ndAt l i).ins, ofAt of z = ofAt of (i : Nat)
/-- parts may be -/
structure PtsOk (l : List Nd) (of : List Int) (N : Int) (ah : List (List Int)) : Prop where
  lo : 1 ≤ N
  hi : N ≤ 64
  n : of.length = l.length
  r : ∀ z ∈ of, 0 ≤ z ∧ z < N
  u : ∀ k : Int, 0 ≤ k → k < N → k ∈ of
  t : Tog l of
  a : ah = aheadL l of N.toNat
theorem aheadL_len (l : List Nd) (of : List Int) (N : Nat) : (aheadL l of N).length = N := by simp [aheadL]
theorem ofAt_mem {of : List Int} {z : Int} {n : Nat} (h : inB n z = true) (hn : of.length = n) : ofAt of z ∈ of := by
  simp [inB] at h
  have hz : z.toNat < of.length := by omega
  unfold ofAt
  rw [List.getD_eq_getElem?_getD, List.getElem?_eq_getElem hz]
  exact List.getElem_mem hz
theorem ofAt_nat {of : List Int} {i : Nat} (h : i < of.length) : ofAt of (i : Nat) = of[i] := by
  unfold ofAt
  rw [Int.toNat_natCast, List.getD_eq_getElem?_getD, List.getElem?_eq_getElem h]; rfl

/-! ### sets of nodes -/
def rtF (f : Nat → Nat) : Nat → Nat → Nat
  | 0, i => i
  | k + 1, i => if f i < i then rtF f k (f i) else i
theorem rtF_any (f : Nat → Nat) : ∀ (k k' i : Nat), i ≤ k → i ≤ k' → rtF f k i = rtF f k' i
  | 0, 0, i, _, _ => rfl
  | 0, k' + 1, i, h, _ => by
    have h0 : i = 0 := by omega
    subst h0
    show 0 = if f 0 < 0 then _ else 0
    rw [if_neg (Nat.not_lt_zero _)]
  | k + 1, 0, i, _, h => by
    have h0 : i = 0 := by omega
    subst h0
    show (if f 0 < 0 then _ else 0) = 0
    rw [if_neg (Nat.not_lt_zero _)]
  | k + 1, k' + 1, i, h, h' => by
    show (if f i < i then rtF f k (f i) else i) = if f i < i then rtF f k' (f i) else i
    by_cases hl : f i < i
    · rw [if_pos hl, if_pos hl]; exact rtF_any f k k' (f i) (by omega) (by omega)
    · rw [if_neg hl, if_neg hl]
/-- the lowest node of a node's set -/
def rt (f : Nat → Nat) (i : Nat) : Nat := rtF f i i
theorem rt_lt {f : Nat → Nat} {i : Nat} (h : f i < i) : rt f i = rt f (f i) := by
  unfold rt
  obtain ⟨k, rfl⟩ : ∃ k, i = k + 1 := ⟨i - 1, by omega⟩
  show (if f (k + 1) < k + 1 then rtF f k (f (k + 1)) else k + 1) = _
  rw [if_pos h]
  exact rtF_any f _ _ _ (by omega) (Nat.le_refl _)
theorem rt_ge {f : Nat → Nat} {i : Nat} (h : ¬ f i < i) : rt f i = i := by
  unfold rt
  cases i with
  | zero => rfl
  | succ k => show (if f (k + 1) < k + 1 then rtF f k (f (k + 1)) else k + 1) = _; rw [if_neg h]
theorem rt_le (f : Nat → Nat) (i : Nat) : rt f i ≤ i := by
  induction i using Nat.strongRecOn with
  | ind i ih =>
    by_cases h : f i < i
    · rw [rt_lt h]; exact Nat.le_trans (ih _ h) (Nat.le_of_lt h)
    · rw [rt_ge h]; exact Nat.le_refl _
theorem rt_fix {f : Nat → Nat} (hf : ∀ i, f i ≤ i) (i : Nat) : f (rt f i) = rt f i := by
  induction i using Nat.strongRecOn with
  | ind i ih =>
    by_cases h : f i < i
    · rw [rt_lt h]; exact ih _ h
    · rw [rt_ge h]; have := hf i; omega
theorem rt_root {f : Nat → Nat} {i : Nat} (h : f i = i) : rt f i = i := rt_ge (by omega)
theorem rt_idem {f : Nat → Nat} (hf : ∀ i, f i ≤ i) (i : Nat) : rt f (rt f i) = rt f i := rt_root (rt_fix hf i)
theorem upd_le {f : Nat → Nat} (hf : ∀ i, f i ≤ i) {n v : Nat} (h : v ≤ n) : ∀ i, upd f n v i ≤ i := fun i => by
  unfold upd; split
  · rename_i e; omega
  · exact hf i
theorem rt_halve {f : Nat → Nat} (hf : ∀ i, f i ≤ i) (n : Nat) (i : Nat) : rt (upd f n (f (f n))) i = rt f i := by
  induction i using Nat.strongRecOn with
  | ind i ih =>
    by_cases e : i = n
    · subst e
      have h1 := hf i
      have h2 := hf (f i)
      by_cases h : f i < i
      · have h3 : upd f i (f (f i)) i < i := by rw [upd_at]; omega
        rw [rt_lt h3, upd_at, ih _ (by omega), rt_lt h]
        by_cases h4 : f (f i) < f i
        · rw [rt_lt h4]
        · rw [show f (f i) = f i by omega]
      · have h0 : f i = i := by omega
        rw [rt_ge h, rt_ge (by rw [upd_at, h0, h0]; omega)]
    · by_cases h : f i < i
      · have h3 : upd f n (f (f n)) i < i := by rw [upd_ne _ _ e]; exact h
        rw [rt_lt h3, upd_ne _ _ e, ih _ h, rt_lt h]
      · rw [rt_ge h, rt_ge (by rw [upd_ne _ _ e]; exact h)]
theorem rt_join {f : Nat → Nat} {hi lo : Nat} (h1 : f lo = lo) (h2 : f hi = hi) (hl : lo ≤ hi) (i : Nat) : rt (upd f hi lo) i = if rt f i = hi then lo else rt f i := by
  induction i using Nat.strongRecOn with
  | ind i ih =>
    by_cases e : i = hi
    · subst e
      rw [rt_root h2, if_pos rfl]
      by_cases h : lo < i
      · rw [rt_lt (by rw [upd_at]; exact h), upd_at, ih _ h, rt_root h1, if_neg (by omega)]
      · rw [rt_ge (by rw [upd_at]; exact h)]; omega
    · by_cases h : f i < i
      · rw [rt_lt (by rw [upd_ne _ _ e]; exact h), upd_ne _ _ e, ih _ h, rt_lt h]
      · rw [rt_ge (by rw [upd_ne _ _ e]; exact h), rt_ge h, if_neg e]
/-- what a join leaves: sets that were one are one, and these two -/
theorem rt_joined {f : Nat → Nat} (hf : ∀ i, f i ≤ i) (a b : Nat) {g : Nat → Nat} (hg : ∀ i, rt g i = rt f i) (hgl : ∀ i, g i ≤ i) :
    (∀ i, upd g (max (rt f a) (rt f b)) (min (rt f a) (rt f b)) i ≤ i) ∧ (∀ i j, rt f i = rt f j → rt (upd g (max (rt f a) (rt f b)) (min (rt f a) (rt f b))) i = rt (upd g (max (rt f a) (rt f b)) (min (rt f a) (rt f b))) j) ∧ rt (upd g (max (rt f a) (rt f b)) (min (rt f a) (rt f b))) a = rt (upd g (max (rt f a) (rt f b)) (min (rt f a) (rt f b))) b := by
  have fa : g (rt f a) = rt f a := by rw [← hg a]; exact rt_fix hgl a
  have fb : g (rt f b) = rt f b := by rw [← hg b]; exact rt_fix hgl b
  have h1 : g (min (rt f a) (rt f b)) = min (rt f a) (rt f b) := by rcases Nat.le_total (rt f a) (rt f b) with h | h <;> simp [Nat.min_eq_left, Nat.min_eq_right, h, fa, fb]
  have h2 : g (max (rt f a) (rt f b)) = max (rt f a) (rt f b) := by rcases Nat.le_total (rt f a) (rt f b) with h | h <;> simp [Nat.max_eq_left, Nat.max_eq_right, h, fa, fb]
  have hl : min (rt f a) (rt f b) ≤ max (rt f a) (rt f b) := by omega
  have J := fun i => rt_join h1 h2 hl i
  refine ⟨upd_le hgl hl, fun i j e => by rw [J, J, hg, hg, e], ?_⟩
  rw [J, J, hg, hg]
  split <;> split <;> omega

/-! ### groups -/
def nR (ρ : Nat → Nat) : Nat → Nat
  | 0 => 0
  | i + 1 => nR ρ i + if ρ i = i then 1 else 0
def clR (ρ : Nat → Nat) (j : Nat) : Nat := nR ρ (ρ j)
theorem nR_mono (ρ : Nat → Nat) {i j : Nat} (h : i ≤ j) : nR ρ i ≤ nR ρ j := by
  induction h with
  | refl => exact Nat.le_refl _
  | step _ ih => exact Nat.le_trans ih (Nat.le_add_right _ _)
theorem nR_le (ρ : Nat → Nat) (i : Nat) : nR ρ i ≤ i := by
  induction i with
  | zero => exact Nat.le_refl _
  | succ i ih => show nR ρ i + _ ≤ i + 1; split <;> omega
theorem clR_lt {ρ : Nat → Nat} (h1 : ∀ j, ρ j ≤ j) (h2 : ∀ j, ρ (ρ j) = ρ j) {j i : Nat} (h : j < i) : clR ρ j < nR ρ i := by
  have h3 : nR ρ (ρ j + 1) = nR ρ (ρ j) + 1 := by show nR ρ (ρ j) + _ = _; rw [if_pos (h2 j)]
  have h4 := nR_mono ρ (i := ρ j + 1) (j := i) (by have := h1 j; omega)
  unfold clR; omega
theorem clR_all {ρ : Nat → Nat} (i : Nat) : ∀ k, k < nR ρ i → ∃ j, j < i ∧ ρ j = j ∧ clR ρ j = k := by
  induction i with
  | zero => intro k hk; exact absurd hk (Nat.not_lt_zero _)
  | succ i ih =>
    intro k hk
    by_cases h : ρ i = i
    · have e : nR ρ (i + 1) = nR ρ i + 1 := by show nR ρ i + _ = _; rw [if_pos h]
      by_cases hk2 : k < nR ρ i
      · obtain ⟨j, a, b, c⟩ := ih k hk2; exact ⟨j, by omega, b, c⟩
      · exact ⟨i, Nat.lt_succ_self _, h, by unfold clR; rw [h]; omega⟩
    · have e : nR ρ (i + 1) = nR ρ i := by show nR ρ i + _ = _; rw [if_neg h]; rfl
      obtain ⟨j, a, b, c⟩ := ih k (by omega); exact ⟨j, by omega, b, c⟩
/-- the nodes of a class among the first ones -/
def glR (cl : Nat → Nat) (i k : Nat) : List Nat := (List.range i).filter fun j => decide (cl j = k)
theorem glR_succ (cl : Nat → Nat) (i k : Nat) : glR cl (i + 1) k = if cl i = k then glR cl i k ++ [i] else glR cl i k := by
  unfold glR; rw [List.range_succ, List.filter_append]
  split
  · rename_i h; simp [h]
  · rename_i h; simp [h]
theorem glR_mem {cl : Nat → Nat} {i k j : Nat} : j ∈ glR cl i k ↔ j < i ∧ cl j = k := by unfold glR; rw [List.mem_filter, List.mem_range, decide_eq_true_iff]
theorem glR_len (cl : Nat → Nat) (i k : Nat) : (glR cl i k).length ≤ i := by
  have := List.length_filter_le (fun j => decide (cl j = k)) (List.range i)
  rw [List.length_range] at this; exact this
theorem glR_none {cl : Nat → Nat} {i k : Nat} (h : ∀ j, j < i → cl j ≠ k) : glR cl i k = [] := by
  unfold glR; rw [List.filter_eq_nil_iff]
  intro j hj; rw [decide_eq_true_iff]; exact h j (List.mem_range.1 hj)
end Go.Proofs.YtokepgnnepjiaaaGreat

/- How groups are dealt to parts, plain. -/
namespace Go.Proofs.YtokepgnnepjiaaaGreat
set_option maxRecDepth 100000
open Go.RowKit Lg Nl
set_option linter.unusedVariables false

/-- how many parts have nodes -/
def pz (ld : Nat → Int) : Nat → Nat
  | 0 => 0
  | p + 1 => pz ld p + if 0 < ld p then 1 else 0
theorem pz_le (ld : Nat → Int) (p : Nat) : pz ld p ≤ p := by
  induction p with
  | zero => exact Nat.le_refl _
  | succ p ih => show pz ld p + _ ≤ p + 1; split <;> omega
theorem pz_full {ld : Nat → Int} {p : Nat} (h : p ≤ pz ld p) : ∀ k, k < p → 0 < ld k := by
  induction p with
  | zero => intro k hk; exact absurd hk (Nat.not_lt_zero _)
  | succ p ih =>
    intro k hk
    have h1 := pz_le ld p
    have h2 : p + 1 ≤ pz ld p + if 0 < ld p then 1 else 0 := h
    by_cases hp : 0 < ld p
    · rw [if_pos hp] at h2
      rcases Nat.lt_succ_iff_lt_or_eq.1 hk with h3 | h3
      · exact ih (by omega) k h3
      · rw [h3]; exact hp
    · rw [if_neg hp] at h2; omega
theorem pz_pos {ld : Nat → Int} {p : Nat} (h : ∀ k, k < p → 0 < ld k) : pz ld p = p := by
  induction p with
  | zero => rfl
  | succ p ih => show pz ld p + _ = _; rw [ih (fun k hk => h k (by omega)), if_pos (h p (by omega))]
theorem pz_eq {a b : Nat → Int} {p : Nat} (h : ∀ k, k < p → a k = b k) : pz a p = pz b p := by
  induction p with
  | zero => rfl
  | succ p ih => show pz a p + _ = pz b p + _; rw [ih (fun k hk => h k (by omega)), h p (by omega)]
theorem pz_up {ld : Nat → Int} {p k : Nat} {v : Int} (hk : k < p) (h0 : ld k ≤ 0) (hv : 0 < v) : pz (upd ld k v) p = pz ld p + 1 := by
  induction p with
  | zero => omega
  | succ p ih =>
    show pz (upd ld k v) p + _ = pz ld p + _ + 1
    by_cases e : p = k
    · subst e
      rw [upd_at, if_pos hv, if_neg (by omega), pz_eq (b := ld) (fun q hq => upd_ne _ _ (by omega))]
    · rw [ih (by omega), upd_ne _ _ e]; omega
/-- a group more: the part that has the fewest gets it -/
theorem pz_step {ld : Nat → Int} {p d k : Nat} {v : Int} (hk : k < p) (hmin : ∀ q, q < p → ld k ≤ ld q) (h0 : 0 ≤ ld k) (hv : ld k < v) (h : min p d ≤ pz ld p) : min p (d + 1) ≤ pz (upd ld k v) p := by
  by_cases hz : ld k = 0
  · rw [pz_up hk (by omega) (by omega)]; omega
  · have hp : ∀ q, q < p → 0 < upd ld k v q := fun q hq => by
      unfold upd; split
      · omega
      · have := hmin q hq; omega
    rw [pz_pos hp]; omega
/-- what is known while groups are dealt: dl are the groups that are -/
structure Dl (n c p : Nat) (cl : Nat → Nat) (dl : List Nat) (of ld : Nat → Int) : Prop where
  r : ∀ j, j < n → 0 ≤ of j ∧ of j < p
  s : ∀ i j, i < n → j < n → cl i ∈ dl → cl i = cl j → of i = of j
  l : ∀ k, k < p → 0 ≤ ld k ∧ ld k ≤ 4096 * (dl.length : Int)
  e : ∀ k, k < p → 0 < ld k → ∃ j, j < n ∧ cl j ∈ dl ∧ of j = k
  z : min p dl.length ≤ pz ld p
theorem Dl.start {n c p : Nat} {cl : Nat → Nat} (hp : 0 < p) : Dl n c p cl [] (fun _ => 0) (fun _ => 0) :=
  ⟨fun j _ => ⟨Int.le_refl _, by show (0 : Int) < p; omega⟩, fun i j _ _ h => absurd h (List.not_mem_nil), fun k _ => ⟨Int.le_refl _, by simp⟩, fun k _ h => absurd h (by show ¬ (0 : Int) < 0; omega), by simp⟩
/-- a group whose nodes all go to part q -/
theorem Dl.step {n c p : Nat} {cl : Nat → Nat} {dl : List Nat} {of ld of' : Nat → Int} (h : Dl n c p cl dl of ld) {g q sz : Nat} (hg : g ∉ dl) (hq : q < p) (hmin : ∀ k, k < p → ld q ≤ ld k) (h1 : 1 ≤ sz) (h2 : sz ≤ 4096) (hw : ∃ j, j < n ∧ cl j = g)
    (ho : ∀ j, j < n → of' j = if cl j = g then (q : Int) else of j) : Dl n c p cl (dl ++ [g]) of' (upd ld q (ld q + sz)) := by
  have hl : (dl ++ [g]).length = dl.length + 1 := by simp
  refine ⟨fun j hj => ?_, fun i j hi hj hm e => ?_, fun k hk => ?_, fun k hk hp => ?_, ?_⟩
  · rw [ho j hj]; split
    · constructor <;> omega
    · exact h.r j hj
  · rw [ho i hi, ho j hj, e]
    by_cases hgj : cl j = g
    · rw [if_pos hgj, if_pos hgj]
    · rw [if_neg hgj, if_neg hgj]
      rw [List.mem_append, List.mem_singleton, e] at hm
      exact h.s i j hi hj (by rw [e]; exact hm.elim id (fun h' => absurd h' hgj)) e
  · have h3 := h.l k hk
    have h4 := h.l q hq
    rw [hl]
    unfold upd
    split
    · constructor <;> omega
    · constructor <;> omega
  · by_cases e : k = q
    · subst e
      obtain ⟨j, hj, hc⟩ := hw
      exact ⟨j, hj, by rw [hc]; simp, by rw [ho j hj, if_pos hc]⟩
    · rw [upd_ne _ _ e] at hp
      obtain ⟨j, hj, hc, hoj⟩ := h.e k hk hp
      refine ⟨j, hj, List.mem_append.2 (Or.inl hc), ?_⟩
      rw [ho j hj, if_neg (fun h' => hg (by rw [← h']; exact hc))]
      exact hoj
  · rw [hl]
    exact pz_step hq hmin (h.l q hq).1 (by omega) h.z
/-- in the end: all groups are dealt -/
theorem Dl.done {n c p : Nat} {cl : Nat → Nat} {dl : List Nat} {of ld : Nat → Int} (h : Dl n c p cl dl of ld) (hpc : p ≤ c) (hcl : ∀ j, j < n → cl j < c) (hall : ∀ k, k < c → k ∈ dl) :
    (∀ j, j < n → 0 ≤ of j ∧ of j < p) ∧ (∀ i j, i < n → j < n → cl i = cl j → of i = of j) ∧ (∀ k : Nat, k < p → ∃ j, j < n ∧ of j = k) := by
  have hlen : c ≤ dl.length := by
    have := many_in c (dl.map fun (z : Nat) => (z : Int)) (fun v hv => List.mem_map.2 ⟨v, hall v hv, rfl⟩)
    rw [List.length_map] at this; exact this
  have hz := h.z
  rw [Nat.min_eq_left (by omega)] at hz
  refine ⟨h.r, fun i j hi hj e => h.s i j hi hj (hall _ (hcl i hi)) e, fun k hk => ?_⟩
  obtain ⟨j, hj, _, ho⟩ := h.e k hk (pz_full hz k hk)
  exact ⟨j, hj, ho⟩
/-- groups of one size -/
def bsz (sz : Nat → Nat) (c s : Nat) : List Nat := (List.range c).filter fun k => decide (sz k = s)
theorem bsz_mem {sz : Nat → Nat} {c s k : Nat} : k ∈ bsz sz c s ↔ k < c ∧ sz k = s := by unfold bsz; rw [List.mem_filter, List.mem_range, decide_eq_true_iff]
theorem bsz_nodup (sz : Nat → Nat) (c s : Nat) : (bsz sz c s).Nodup := List.Pairwise.filter _ List.nodup_range
theorem bsz_succ (sz : Nat → Nat) (c s : Nat) : bsz sz (c + 1) s = if sz c = s then bsz sz c s ++ [c] else bsz sz c s := by
  unfold bsz; rw [List.range_succ, List.filter_append]
  split
  · rename_i h; simp [h]
  · rename_i h; simp [h]
/-- those that are dealt when these sizes have come -/
def dlt (sz : Nat → Nat) (c : Nat) (ss : List Nat) : List Nat := ss.flatMap (bsz sz c)
theorem dlt_snoc (sz : Nat → Nat) (c : Nat) (ss : List Nat) (s : Nat) : dlt sz c (ss ++ [s]) = dlt sz c ss ++ bsz sz c s := by simp [dlt]
theorem dlt_mem {sz : Nat → Nat} {c : Nat} {ss : List Nat} {k : Nat} : k ∈ dlt sz c ss ↔ k < c ∧ sz k ∈ ss := by
  unfold dlt; rw [List.mem_flatMap]
  constructor
  · rintro ⟨s, hs, hk⟩; obtain ⟨a, b⟩ := bsz_mem.1 hk; exact ⟨a, b ▸ hs⟩
  · rintro ⟨a, b⟩; exact ⟨_, b, bsz_mem.2 ⟨a, rfl⟩⟩
/-- the next one has not been dealt -/
theorem dlt_new {sz : Nat → Nat} {c : Nat} {ss : List Nat} {s t : Nat} (hs : s ∉ ss) (ht : t < (bsz sz c s).length) : (bsz sz c s)[t] ∉ dlt sz c ss ++ (bsz sz c s).take t := by
  intro hm
  obtain ⟨h1, h2⟩ := bsz_mem.1 (List.getElem_mem ht)
  rcases List.mem_append.1 hm with h | h
  · exact hs (by have := (dlt_mem.1 h).2; rw [h2] at this; exact this)
  · obtain ⟨j, hj, e⟩ := List.getElem_of_mem h
    rw [List.length_take] at hj
    rw [List.getElem_take] at e
    exact (List.pairwise_iff_getElem.1 (bsz_nodup sz c s)) j t (by omega) ht (by omega) e
end Go.Proofs.YtokepgnnepjiaaaGreat

/- Sets of nodes in memory: newSets, lowest, join. -/
namespace Go.Proofs.YtokepgnnepjiaaaGreat
set_option maxRecDepth 100000
open Go.RowKit Lg Nl Go.Maps
set_option linter.unusedVariables false
set_option linter.unusedSimpArgs false

/-- one block alone has turned -/
structure Only (T : Nat) (w w' : World) : Prop where
  os : w'.os = w.os
  tape : w'.tape = w.tape
  output : w'.output = w.output
  size : w'.heap.size = w.heap.size
  block : ∀ k, k ≠ T → w'.heap[k]? = w.heap[k]?
theorem Only.refl (T : Nat) (w : World) : Only T w w := ⟨rfl, rfl, rfl, rfl, fun _ _ => rfl⟩
theorem Only.trans {T : Nat} {a b c : World} (h : Only T a b) (k : Only T b c) : Only T a c := ⟨k.os.trans h.os, k.tape.trans h.tape, k.output.trans h.output, k.size.trans h.size, fun i hi => (k.block i hi).trans (h.block i hi)⟩
theorem Only.set {T : Nat} {w w' : World} (h : Only T w w') (i : Nat) (v : Value) : Only T w (w'.setCell ⟨T, i, none⟩ v) :=
  ⟨h.os, h.tape, h.output, by rw [show (w'.setCell ⟨T, i, none⟩ v).heap.size = w'.heap.size by simp [World.setCell]]; exact h.size, fun k hk => (Below.heap_setCell _ _ _ _ (by show k ≠ T; exact hk)).trans (h.block k hk)⟩
theorem Only.below {T B : Nat} {w w' : World} (h : Only T w w') (hB : B ≤ T) : Below B w w' := ⟨h.os, h.tape, h.output, by rw [h.size]; exact Nat.le_refl _, fun k hk => h.block k (by omega)⟩
/-- numbers of a row -/
def nF (f : Nat → Nat) : Nat → Value := fun q => .int .i64 ((f q : Nat) : Int)
end Go.Proofs.YtokepgnnepjiaaaGreat

/- A list of lists that grows, in memory. -/
namespace Go.Proofs.YtokepgnnepjiaaaGreat
set_option maxRecDepth 100000
open Go.RowKit Lg Nl Go.Maps
set_option linter.unusedVariables false
set_option linter.unusedSimpArgs false

theorem own_at {w w' : World} {B e z n : Nat} {v : Value} {xs : List Value} (h : w.ownsRow B e z v n xs) (hb : ∀ k, v.ownBlock = some k → w'.heap[k]? = w.heap[k]?) : w'.ownsRow B e z v n xs := by
  obtain ⟨h1, h2⟩ := h
  refine ⟨h1, ?_⟩
  rcases h2 with h2 | ⟨g, cap, cur, rfl, hg, hh, r⟩
  · exact Or.inl h2
  · exact Or.inr ⟨g, cap, cur, rfl, hg, (hb g rfl).trans hh, r⟩
/-- a list vL whose elements vs are the rows gs, all in blocks of their own -/
structure GL (B : Nat) (vL : Value) (vs : List Value) (gs : Nat → List Nat) (W : World) : Prop where
  o : W.ownsRow B 24 1 vL vs.length vs
  r : ∀ (k : Nat) v, vs[k]? = some v → W.ownsRow B 3 1 v (gs k).length (iC (nZ (gs k)))
  d : ∀ (k k' : Nat) v v' b, vs[k]? = some v → vs[k']? = some v' → v.ownBlock = some b → v'.ownBlock = some b → k = k'
  q : ∀ (k : Nat) v b, vs[k]? = some v → v.ownBlock = some b → vL.ownBlock ≠ some b
theorem GL.start (B : Nat) (gs : Nat → List Nat) (W : World) : GL B (.slice none 0 0) [] gs W :=
  ⟨World.ownsRow_nil W B _ 1, fun k v h => by simp at h, fun k k' v v' b h => by simp at h, fun k v b h => by simp at h⟩
theorem GL.keep {B : Nat} {vL : Value} {vs : List Value} {gs : Nat → List Nat} {W W' : World} (h : GL B vL vs gs W) (hb : ∀ k, B ≤ k → k < W.heap.size → W'.heap[k]? = W.heap[k]?) : GL B vL vs gs W' :=
  ⟨own_at h.o fun k e => hb k (h.o.lt k e).1 (h.o.lt k e).2, fun k v hk => own_at (h.r k v hk) fun q e => hb q ((h.r k v hk).lt q e).1 ((h.r k v hk).lt q e).2, h.d, h.q⟩
theorem GL.congr {B : Nat} {vL : Value} {vs : List Value} {gs gs' : Nat → List Nat} {W : World} (h : GL B vL vs gs W) (e : ∀ k, k < vs.length → gs k = gs' k) : GL B vL vs gs' W :=
  ⟨h.o, fun k v hk => by have hl := (List.getElem?_eq_some_iff.1 hk).1; rw [← e k hl]; exact h.r k v hk, h.d, h.q⟩
/-- a list more, which is empty -/
theorem GL.push {B : Nat} {vL v' : Value} {vs : List Value} {gs : Nat → List Nat} {W W1 W' : World} (h : GL B vL vs gs W) (h0 : gs vs.length = []) (h1 : ∀ k, k < W.heap.size → W1.heap[k]? = W.heap[k]?) (hs : W.heap.size ≤ W1.heap.size)
    (ho : W'.ownsRow B 24 1 v' (vs.length + 1) (vs ++ [.slice none 0 0])) (hg : W1.grownBy W' vL.ownBlock) (hloc : v'.ownBlock = vL.ownBlock ∨ v'.ownBlock = some W1.heap.size) : GL B v' (vs ++ [.slice none 0 0]) gs W' := by
  have key : ∀ k v, (vs ++ [Value.slice none 0 0])[k]? = some v → (k < vs.length ∧ vs[k]? = some v) ∨ (k = vs.length ∧ v = .slice none 0 0) := fun k v hk => by
    rcases Nat.lt_trichotomy k vs.length with hl | hl | hl
    · exact Or.inl ⟨hl, by rw [List.getElem?_append_left hl] at hk; exact hk⟩
    · subst hl; rw [List.getElem?_append_right (Nat.le_refl _), Nat.sub_self] at hk; exact Or.inr ⟨rfl, by simpa using hk.symm⟩
    · rw [List.getElem?_eq_none (by simp; omega)] at hk; cases hk
  refine ⟨by rw [List.length_append]; exact ho, fun k v hk => ?_, fun k k' v v2 b hk hk' hb hb' => ?_, fun k v b hk hb => ?_⟩
  · rcases key k v hk with ⟨hl, hv⟩ | ⟨rfl, rfl⟩
    · have hr := h.r k v hv
      refine own_at hr fun b e => ?_
      have hlt := (hr.lt b e).2
      exact (hg.block b (by omega) (h.q k v b hv e).symm).trans (h1 b hlt)
    · rw [h0]; exact World.ownsRow_nil _ _ _ _
  · rcases key k v hk with ⟨hl, hv⟩ | ⟨rfl, rfl⟩
    · rcases key k' v2 hk' with ⟨hl', hv'⟩ | ⟨rfl, rfl⟩
      · exact h.d k k' v v2 b hv hv' hb hb'
      · cases hb'
    · cases hb
  · rcases key k v hk with ⟨hl, hv⟩ | ⟨rfl, rfl⟩
    · rcases hloc with e | e
      · rw [e]; exact h.q k v b hv hb
      · rw [e]; intro e2; injection e2 with e2; have := ((h.r k v hv).lt b hb).2; omega
    · cases hb
/-- an element more of one of the lists, which is stored back -/
theorem GL.app {B gL cap : Nat} {vs : List Value} {gs : Nat → List Nat} {W W1 W' : World} {k x : Nat} {v v' : Value} (h : GL B (.slice (some ⟨gL, 0, none⟩) vs.length cap) vs gs W) (hk : vs[k]? = some v) (h1 : ∀ j, j < W.heap.size → W1.heap[j]? = W.heap[j]?) (hs : W.heap.size ≤ W1.heap.size)
    (ho : W'.ownsRow B 3 1 v' ((gs k).length + 1) (iC (nZ (gs k)) ++ [.int .i64 (x : Int)])) (hg : W1.grownBy W' v.ownBlock) (hloc : v'.ownBlock = v.ownBlock ∨ v'.ownBlock = some W1.heap.size) :
    GL B (.slice (some ⟨gL, 0, none⟩) vs.length cap) (vs.set k v') (upd gs k (gs k ++ [x])) (W'.setCell ⟨gL, k, none⟩ v') := by
  have hgl := h.o.lt gL rfl
  have hkl := (List.getElem?_eq_some_iff.1 hk).1
  have hq' : v'.ownBlock ≠ some gL := by
    rcases hloc with e | e
    · rw [e]; intro e2; exact h.q k v gL hk e2 rfl
    · rw [e]; intro e2; injection e2 with e2; omega
  have kp : ∀ b, b < W.heap.size → some b ≠ v.ownBlock → W'.heap[b]? = W.heap[b]? := fun b hb hn => (hg.block b (by omega) hn).trans (h1 b hb)
  have st : ∀ b, b ≠ gL → (W'.setCell ⟨gL, k, none⟩ v').heap[b]? = W'.heap[b]? := fun b hb => Below.heap_setCell _ _ _ _ (by show b ≠ gL; exact hb)
  have oW' : W'.ownsRow B 24 1 (.slice (some ⟨gL, 0, none⟩) vs.length cap) vs.length vs := own_at h.o fun b e => by
    have e2 : gL = b := by injection e
    subst e2
    exact kp gL hgl.2 (fun e3 => h.q k v gL hk e3.symm rfl)
  have key : ∀ j u, (vs.set k v')[j]? = some u → (j = k ∧ u = v') ∨ (j ≠ k ∧ vs[j]? = some u) := fun j u hj => by
    by_cases e : j = k
    · subst e; rw [List.getElem?_set_self hkl] at hj; injection hj with hj; exact Or.inl ⟨rfl, hj.symm⟩
    · rw [List.getElem?_set_ne (Ne.symm e)] at hj; exact Or.inr ⟨e, hj⟩
  refine ⟨?_, fun j u hj => ?_, fun j j' u u' b hj hj' hb hb' => ?_, fun j u b hj hb => ?_⟩
  · rw [List.length_set]; exact (oW'.stored k v').1
  · rcases key j u hj with ⟨rfl, rfl⟩ | ⟨hne, hu⟩
    · rw [upd_at, List.length_append, nZ_app, iC_app, nZ_one, iC_one]
      exact own_at ho fun b e => st b (fun e2 => hq' (by rw [e, e2]))
    · rw [upd_ne _ _ hne]
      have hr := h.r j u hu
      refine own_at hr fun b e => ?_
      rw [st b (fun e2 => h.q j u b hu e (by rw [e2]; rfl))]
      exact kp b (hr.lt b e).2 (fun e3 => hne (h.d j k u v b hu hk e e3.symm))
  · rcases key j u hj with ⟨rfl, rfl⟩ | ⟨hne, hu⟩
    · rcases key j' u' hj' with ⟨rfl, rfl⟩ | ⟨hne', hu'⟩
      · rfl
      · rcases hloc with e | e
        · exact h.d j j' v u' b hk hu' (by rw [← e]; exact hb) hb'
        · rw [e] at hb; injection hb with hb; have := ((h.r j' u' hu').lt b hb').2; omega
    · rcases key j' u' hj' with ⟨rfl, rfl⟩ | ⟨hne', hu'⟩
      · rcases hloc with e | e
        · exact h.d j j' u v b hu hk hb (by rw [← e]; exact hb')
        · rw [e] at hb'; injection hb' with hb'; have := ((h.r j u hu).lt b hb).2; omega
      · exact h.d j j' u u' b hu hu' hb hb'
  · rcases key j u hj with ⟨rfl, rfl⟩ | ⟨hne, hu⟩
    · intro e2; exact hq' (by rw [hb]; exact e2.symm)
    · exact h.q j u b hu hb
/-- the list's cells -/
theorem GL.cell {B gL cap n : Nat} {vs : List Value} {gs : Nat → List Nat} {W : World} (h : GL B (.slice (some ⟨gL, 0, none⟩) n cap) vs gs W) (hn : n = vs.length) (k : Nat) (hk : k < vs.length) : W.cell? ⟨gL, k, none⟩ = some vs[k] ∧ W.frozen? ⟨gL, k, none⟩ = false ∧ gL < W.heap.size ∧ B ≤ gL := by
  subst hn
  refine ⟨?_, h.o.frozenAt k, (h.o.lt gL rfl).2, (h.o.lt gL rfl).1⟩
  rw [h.o.cellAt k (by omega), List.getElem?_eq_getElem hk]
theorem infoInts : ∃ i, Tryz.prog.info? 24 = some i ∧ i.zero = some (.slice none 0 0) ∧ i.size = 1 ∧ i.bytes = 24 := info_parts (by kernel_rfl)
/-- what an append of one element onto a row of its own does, behind a draw or not -/
theorem app_run {B t e by_ n : Nat} {z : Value} (hz : ∃ i, Tryz.prog.info? e = some i ∧ i.zero = some z ∧ i.size = 1 ∧ i.bytes = by_) (ht : Tryz.prog.underlying t = some (.slice e)) (hzc : z.cells.size = 1) {W : World} {v x : Value} {xs : List Value} (h : W.ownsRow B e 1 v n xs) (hx : x.oneCell' = true) (hn : n ≤ 1000000) (hby : by_ ≤ 64) (hB : B ≤ W.heap.size) :
    ∃ g' cap' W', (∀ ty, (Builtin.append_ #[t, t] ty #[v, .slice (some ⟨W.heap.size, 0, none⟩) 1 1]).run Tryz.prog (W.alloc (.cells #[x] e)).drew = .ok (.slice (some ⟨g', 0, none⟩) (n + 1) cap') W') ∧ Hid (W'.ownsRow B e 1 (.slice (some ⟨g', 0, none⟩) (n + 1) cap') (n + 1) (xs ++ [x])) ∧ Hid ((W.alloc (.cells #[x] e)).drew.grownBy W' v.ownBlock) ∧ Hid ((Value.slice (some ⟨g', 0, none⟩) (n + 1) cap').ownBlock = v.ownBlock ∨ (Value.slice (some ⟨g', 0, none⟩) (n + 1) cap').ownBlock = some (W.alloc (.cells #[x] e)).drew.heap.size) := by
  obtain ⟨i, h1, h2, h3, h4⟩ := hz
  have hn' : ∀ j u, [x][j]? = some u → (W.alloc (.cells #[x] e)).drew.cell? ((⟨W.heap.size, 0, none⟩ : Addr).add j) = some u := fun j u hj => new1i W x e _ rfl j u hj
  have hmul : (n + 1) * by_ ≤ (n + 1) * 64 := Nat.mul_le_mul_left _ hby
  have run := fun ty => run_append_own_at (P := Tryz.prog) (W.alloc (.cells #[x] e)).drew B t ty e i z 1 by_ ht h1 h2 h3 h4 hzc (by decide) v n xs ((h.alloc _).drew) ⟨W.heap.size, 0, none⟩ 1 1 [x] rfl hn' (by intro u hu; simp at hu; subst hu; exact hx) (by unfold maxLen; omega) (by omega) (by show B ≤ (W.heap.push _).size; simp; omega)
  obtain ⟨v', W', r1, r2, r3, _, r5⟩ := run 3
  obtain ⟨g', cap', rfl⟩ := own_slice1 r2
  refine ⟨g', cap', W', fun ty => ?_, r2, r3, r5⟩
  exact r1
/-- an append whose run is known, within a region that draws -/
theorem step_app {P : Program} {ops : Array Oper} {o : Oper} {a : Act} {w : World} {K : Act → World → Prop} {Q : Exit → Act → World → Prop} {E : Prop}
    (hg : o.guard = none) (s x : Operand) (t : TypeId) (hop : o.op = Op.call { callee := Callee.builtin Builtin.append, args := #[s, x], argTypes := #[t, t] }) (v ad v' : Value) (w' : World)
    (hs : a.eval s = v) (hx : a.eval x = ad) (hr : (Builtin.append_ #[t, t] o.type #[v, ad]).run P w = .ok v' w') (hK : K (a.put o.dst v') w') :
    if Region.wanted o (yielded ops a.tmps) = true then Oper.wp P o a w K Q else E := by
  have hw : Region.wanted o (yielded ops a.tmps) = true := by simp [Region.wanted, hg]
  rw [if_pos hw]
  unfold Oper.wp execOp
  simp only [hop, resolve, invoke, builtin, Sem.run_bind, Sem.run_pure, Result.andThen_ok, List.map_toArray, List.map_cons, List.map_nil, hs, hx, hr]
  exact hK
end Go.Proofs.YtokepgnnepjiaaaGreat
