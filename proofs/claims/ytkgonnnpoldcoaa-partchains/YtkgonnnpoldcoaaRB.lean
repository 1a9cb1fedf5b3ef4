/- How groups are dealt to parts, plain. -/
import Derived.Test.YtkgonnnpoldcoaaRA
namespace Go.Proofs.Ytkgonnnpoldcoaa
open Go.RowKit Lg Nl
set_option linter.unusedVariables false

/-- how many parts have nodes -/
def pz (ld : Nat → Int) : Nat → Nat
  | 0 => 0
  | p + 1 => pz ld p + if 0 < ld p then 1 else 0
theorem pz_le (ld : Nat → Int) (p : Nat) : pz ld p ≤ p := by
  induction p with
  | zero => exact Nat.le_refl _
  | succ p ih => show pz ld p + _ ≤ p + 1; split <;> omega
theorem pz_full {ld : Nat → Int} {p : Nat} (h : p ≤ pz ld p) : ∀ k, k < p → 0 < ld k := by
  induction p with
  | zero => intro k hk; exact absurd hk (Nat.not_lt_zero _)
  | succ p ih =>
    intro k hk
    have h1 := pz_le ld p
    have h2 : p + 1 ≤ pz ld p + if 0 < ld p then 1 else 0 := h
    by_cases hp : 0 < ld p
    · rw [if_pos hp] at h2
      rcases Nat.lt_succ_iff_lt_or_eq.1 hk with h3 | h3
      · exact ih (by omega) k h3
      · rw [h3]; exact hp
    · rw [if_neg hp] at h2; omega
theorem pz_pos {ld : Nat → Int} {p : Nat} (h : ∀ k, k < p → 0 < ld k) : pz ld p = p := by
  induction p with
  | zero => rfl
  | succ p ih => show pz ld p + _ = _; rw [ih (fun k hk => h k (by omega)), if_pos (h p (by omega))]
theorem pz_eq {a b : Nat → Int} {p : Nat} (h : ∀ k, k < p → a k = b k) : pz a p = pz b p := by
  induction p with
  | zero => rfl
  | succ p ih => show pz a p + _ = pz b p + _; rw [ih (fun k hk => h k (by omega)), h p (by omega)]
theorem pz_up {ld : Nat → Int} {p k : Nat} {v : Int} (hk : k < p) (h0 : ld k ≤ 0) (hv : 0 < v) : pz (upd ld k v) p = pz ld p + 1 := by
  induction p with
  | zero => omega
  | succ p ih =>
    show pz (upd ld k v) p + _ = pz ld p + _ + 1
    by_cases e : p = k
    · subst e
      rw [upd_at, if_pos hv, if_neg (by omega), pz_eq (b := ld) (fun q hq => upd_ne _ _ (by omega))]
    · rw [ih (by omega), upd_ne _ _ e]; omega
/-- a group more: the part that has the fewest gets it -/
theorem pz_step {ld : Nat → Int} {p d k : Nat} {v : Int} (hk : k < p) (hmin : ∀ q, q < p → ld k ≤ ld q) (h0 : 0 ≤ ld k) (hv : ld k < v) (h : min p d ≤ pz ld p) : min p (d + 1) ≤ pz (upd ld k v) p := by
  by_cases hz : ld k = 0
  · rw [pz_up hk (by omega) (by omega)]; omega
  · have hp : ∀ q, q < p → 0 < upd ld k v q := fun q hq => by
      unfold upd; split
      · omega
      · have := hmin q hq; omega
    rw [pz_pos hp]; omega
/-- what is known while groups are dealt: dl are the groups that are -/
structure Dl (n c p : Nat) (cl : Nat → Nat) (dl : List Nat) (of ld : Nat → Int) : Prop where
  r : ∀ j, j < n → 0 ≤ of j ∧ of j < p
  s : ∀ i j, i < n → j < n → cl i ∈ dl → cl i = cl j → of i = of j
  l : ∀ k, k < p → 0 ≤ ld k ∧ ld k ≤ 4096 * (dl.length : Int)
  e : ∀ k, k < p → 0 < ld k → ∃ j, j < n ∧ cl j ∈ dl ∧ of j = k
  z : min p dl.length ≤ pz ld p
theorem Dl.start {n c p : Nat} {cl : Nat → Nat} (hp : 0 < p) : Dl n c p cl [] (fun _ => 0) (fun _ => 0) :=
  ⟨fun j _ => ⟨Int.le_refl _, by show (0 : Int) < p; omega⟩, fun i j _ _ h => absurd h (List.not_mem_nil), fun k _ => ⟨Int.le_refl _, by simp⟩, fun k _ h => absurd h (by show ¬ (0 : Int) < 0; omega), by simp⟩
/-- a group whose nodes all go to part q -/
theorem Dl.step {n c p : Nat} {cl : Nat → Nat} {dl : List Nat} {of ld of' : Nat → Int} (h : Dl n c p cl dl of ld) {g q sz : Nat} (hg : g ∉ dl) (hq : q < p) (hmin : ∀ k, k < p → ld q ≤ ld k) (h1 : 1 ≤ sz) (h2 : sz ≤ 4096) (hw : ∃ j, j < n ∧ cl j = g)
    (ho : ∀ j, j < n → of' j = if cl j = g then (q : Int) else of j) : Dl n c p cl (dl ++ [g]) of' (upd ld q (ld q + sz)) := by
  have hl : (dl ++ [g]).length = dl.length + 1 := by simp
  refine ⟨fun j hj => ?_, fun i j hi hj hm e => ?_, fun k hk => ?_, fun k hk hp => ?_, ?_⟩
  · rw [ho j hj]; split
    · constructor <;> omega
    · exact h.r j hj
  · rw [ho i hi, ho j hj, e]
    by_cases hgj : cl j = g
    · rw [if_pos hgj, if_pos hgj]
    · rw [if_neg hgj, if_neg hgj]
      rw [List.mem_append, List.mem_singleton, e] at hm
      exact h.s i j hi hj (by rw [e]; exact hm.elim id (fun h' => absurd h' hgj)) e
  · have h3 := h.l k hk
    have h4 := h.l q hq
    rw [hl]
    unfold upd
    split
    · constructor <;> omega
    · constructor <;> omega
  · by_cases e : k = q
    · subst e
      obtain ⟨j, hj, hc⟩ := hw
      exact ⟨j, hj, by rw [hc]; simp, by rw [ho j hj, if_pos hc]⟩
    · rw [upd_ne _ _ e] at hp
      obtain ⟨j, hj, hc, hoj⟩ := h.e k hk hp
      refine ⟨j, hj, List.mem_append.2 (Or.inl hc), ?_⟩
      rw [ho j hj, if_neg (fun h' => hg (by rw [← h']; exact hc))]
      exact hoj
  · rw [hl]
    exact pz_step hq hmin (h.l q hq).1 (by omega) h.z
/-- in the end: all groups are dealt -/
theorem Dl.done {n c p : Nat} {cl : Nat → Nat} {dl : List Nat} {of ld : Nat → Int} (h : Dl n c p cl dl of ld) (hpc : p ≤ c) (hcl : ∀ j, j < n → cl j < c) (hall : ∀ k, k < c → k ∈ dl) :
    (∀ j, j < n → 0 ≤ of j ∧ of j < p) ∧ (∀ i j, i < n → j < n → cl i = cl j → of i = of j) ∧ (∀ k : Nat, k < p → ∃ j, j < n ∧ of j = k) := by
  have hlen : c ≤ dl.length := by
    have := many_in c (dl.map fun (z : Nat) => (z : Int)) (fun v hv => List.mem_map.2 ⟨v, hall v hv, rfl⟩)
    rw [List.length_map] at this; exact this
  have hz := h.z
  rw [Nat.min_eq_left (by omega)] at hz
  refine ⟨h.r, fun i j hi hj e => h.s i j hi hj (hall _ (hcl i hi)) e, fun k hk => ?_⟩
  obtain ⟨j, hj, _, ho⟩ := h.e k hk (pz_full hz k hk)
  exact ⟨j, hj, ho⟩
/-- groups of one size -/
def bsz (sz : Nat → Nat) (c s : Nat) : List Nat := (List.range c).filter fun k => decide (sz k = s)
theorem bsz_mem {sz : Nat → Nat} {c s k : Nat} : k ∈ bsz sz c s ↔ k < c ∧ sz k = s := by unfold bsz; rw [List.mem_filter, List.mem_range, decide_eq_true_iff]
theorem bsz_nodup (sz : Nat → Nat) (c s : Nat) : (bsz sz c s).Nodup := List.Pairwise.filter _ List.nodup_range
theorem bsz_succ (sz : Nat → Nat) (c s : Nat) : bsz sz (c + 1) s = if sz c = s then bsz sz c s ++ [c] else bsz sz c s := by
  unfold bsz; rw [List.range_succ, List.filter_append]
  split
  · rename_i h; simp [h]
  · rename_i h; simp [h]
/-- those that are dealt when these sizes have come -/
def dlt (sz : Nat → Nat) (c : Nat) (ss : List Nat) : List Nat := ss.flatMap (bsz sz c)
theorem dlt_snoc (sz : Nat → Nat) (c : Nat) (ss : List Nat) (s : Nat) : dlt sz c (ss ++ [s]) = dlt sz c ss ++ bsz sz c s := by simp [dlt]
theorem dlt_mem {sz : Nat → Nat} {c : Nat} {ss : List Nat} {k : Nat} : k ∈ dlt sz c ss ↔ k < c ∧ sz k ∈ ss := by
  unfold dlt; rw [List.mem_flatMap]
  constructor
  · rintro ⟨s, hs, hk⟩; obtain ⟨a, b⟩ := bsz_mem.1 hk; exact ⟨a, b ▸ hs⟩
  · rintro ⟨a, b⟩; exact ⟨_, b, bsz_mem.2 ⟨a, rfl⟩⟩
/-- the next one has not been dealt -/
theorem dlt_new {sz : Nat → Nat} {c : Nat} {ss : List Nat} {s t : Nat} (hs : s ∉ ss) (ht : t < (bsz sz c s).length) : (bsz sz c s)[t] ∉ dlt sz c ss ++ (bsz sz c s).take t := by
  intro hm
  obtain ⟨h1, h2⟩ := bsz_mem.1 (List.getElem_mem ht)
  rcases List.mem_append.1 hm with h | h
  · exact hs (by have := (dlt_mem.1 h).2; rw [h2] at this; exact this)
  · obtain ⟨j, hj, e⟩ := List.getElem_of_mem h
    rw [List.length_take] at hj
    rw [List.getElem_take] at e
    exact (List.pairwise_iff_getElem.1 (bsz_nodup sz c s)) j t (by omega) ht (by omega) e
end Go.Proofs.Ytkgonnnpoldcoaa
