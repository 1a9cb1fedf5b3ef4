/- Levels, plain: what they are, and that there is one way alone to tell them. -/
import Derived.Test.YtpdcmehjndhcjaaKU
namespace Go.Proofs.Ytpdcmehjndhcjaa
open Go.RowKit Lg Nl Go.Maps
set_option linter.unusedVariables false
set_option linter.unusedSimpArgs false

/-- numbers that are levels: each node is behind all that it hangs on, and just behind one of them -/
structure Lev (l : List Nd) (g : Nat → Int) : Prop where
  lo : ∀ i, i < l.length → 0 ≤ g i
  up : ∀ i, i < l.length → ∀ h ∈ hgs (ndAt l i), g h + 1 ≤ g i
  ti : ∀ i, i < l.length → g i = 0 ∨ ∃ h ∈ hgs (ndAt l i), g i = g h + 1
theorem hgs_lt {l : List Nd} (hk : Ok l) {i : Nat} (hi : i < l.length) {h : Nat} (hh : h ∈ hgs (ndAt l i)) : h < l.length := by
  unfold hgs at hh
  obtain ⟨z, hz, rfl⟩ := List.mem_map.1 hh
  have hm : ndAt l i ∈ l := ndAt_mem hi
  have hin := hk.i _ hm
  rw [List.all_eq_true] at hin
  have : inB l.length z = true := by
    unfold hangL at hz
    split at hz
    · cases hz
    · split at hz
      · exact hin z (List.mem_of_mem_take hz)
      · exact hin z hz
  simp [inB] at this
  omega
/-- one step never makes a number less -/
theorem bump_ge (i : Nat) (s : (Nat → Int) × Bool) (h q : Nat) : s.1 q ≤ (bump i s h).1 q := by
  unfold bump
  split
  · rename_i hlt
    show s.1 q ≤ if q = i then s.1 h + 1 else s.1 q
    split
    · rename_i e; rw [e]; omega
    · exact Int.le_refl _
  · exact Int.le_refl _
theorem bumps_ge (i : Nat) : ∀ (hs : List Nat) (s : (Nat → Int) × Bool) (q : Nat), s.1 q ≤ (bumps s i hs).1 q
  | [], s, q => Int.le_refl _
  | h :: r, s, q => Int.le_trans (bump_ge i s h q) (bumps_ge i r (bump i s h) q)
/-- if nothing is changed all stays, and was right -/
theorem bumps_no (i : Nat) : ∀ (hs : List Nat) (s : (Nat → Int) × Bool), (bumps s i hs).2 = false → bumps s i hs = s ∧ ∀ h ∈ hs, s.1 h + 1 ≤ s.1 i
  | [], s, _ => ⟨rfl, fun h hh => by cases hh⟩
  | h :: r, s, hc => by
    obtain ⟨a, b⟩ := bumps_no i r (bump i s h) hc
    have hs2 : (bump i s h).2 = false := by
      have : (bumps (bump i s h) i r).2 = false := hc
      rw [a] at this; exact this
    have he : bump i s h = s ∧ s.1 h + 1 ≤ s.1 i := by
      unfold bump at hs2 ⊢
      split at hs2
      · cases hs2
      · rename_i hn; rw [if_neg hn]; exact ⟨rfl, by omega⟩
    refine ⟨by show bumps (bump i s h) i r = s; rw [a, he.1], fun h' hh => ?_⟩
    rcases List.mem_cons.1 hh with rfl | hh
    · exact he.2
    · have := b h' hh; rw [he.1] at this; exact this
theorem bumps_flag (i : Nat) : ∀ (hs : List Nat) (s : (Nat → Int) × Bool), s.2 = true → (bumps s i hs).2 = true
  | [], s, h => h
  | h :: r, s, hc => bumps_flag i r (bump i s h) (by unfold bump; split; rfl; exact hc)
theorem sweep_no (l : List Nd) (f : Nat → Int) : ∀ i, (sweepTo l f i).2 = false → sweepTo l f i = (f, false) ∧ ∀ j, j < i → ∀ h ∈ hgs (ndAt l j), f h + 1 ≤ f j
  | 0, _ => ⟨rfl, fun j hj => by omega⟩
  | i + 1, hc => by
    have hc' : (bumps (sweepTo l f i) i (hgs (ndAt l i))).2 = false := hc
    have h0 : (sweepTo l f i).2 = false := by
      cases hb : (sweepTo l f i).2 with
      | false => rfl
      | true => rw [bumps_flag i _ _ hb] at hc'; cases hc'
    obtain ⟨a, b⟩ := sweep_no l f i h0
    obtain ⟨c, d⟩ := bumps_no i _ _ hc'
    refine ⟨by show bumps (sweepTo l f i) i (hgs (ndAt l i)) = _; rw [c, a], fun j hj h hh => ?_⟩
    rcases Nat.lt_succ_iff_lt_or_eq.1 hj with hj | rfl
    · exact b j hj h hh
    · have := d h hh; rw [a] at this; exact this
/-- numbers that are not below 0, nor more than just behind one -/
structure Pre (l : List Nd) (g : Nat → Int) : Prop where
  lo : ∀ i, 0 ≤ g i
  ti : ∀ i, i < l.length → g i = 0 ∨ ∃ h ∈ hgs (ndAt l i), g i ≤ g h + 1
theorem bump_pre {l : List Nd} {i h : Nat} {s : (Nat → Int) × Bool} (hh : h ∈ hgs (ndAt l i)) (p : Pre l s.1) : Pre l (bump i s h).1 := by
  have hge := bump_ge i s h
  refine ⟨fun q => Int.le_trans (p.lo q) (hge q), fun q hq => ?_⟩
  by_cases hc : s.1 i < s.1 h + 1
  · have e : (bump i s h).1 q = if q = i then s.1 h + 1 else s.1 q := by unfold bump; rw [if_pos hc]
    by_cases hqi : q = i
    · right
      subst hqi
      rw [e, if_pos rfl]
      exact ⟨h, hh, by have := hge h; omega⟩
    · rw [e, if_neg hqi]
      rcases p.ti q hq with h0 | ⟨h', a, b⟩
      · exact Or.inl h0
      · exact Or.inr ⟨h', a, by have := hge h'; omega⟩
  · have e : bump i s h = s := by unfold bump; rw [if_neg hc]
    rw [e]; exact p.ti q hq
theorem bumps_pre {l : List Nd} {i : Nat} : ∀ (hs : List Nat) (s : (Nat → Int) × Bool), (∀ h ∈ hs, h ∈ hgs (ndAt l i)) → Pre l s.1 → Pre l (bumps s i hs).1
  | [], s, _, p => p
  | h :: r, s, hm, p => bumps_pre r (bump i s h) (fun h' hh => hm h' (List.mem_cons_of_mem _ hh)) (bump_pre (hm h (List.mem_cons_self ..)) p)
theorem sweep_pre {l : List Nd} {f : Nat → Int} (p : Pre l f) : ∀ i, Pre l (sweepTo l f i).1
  | 0 => p
  | i + 1 => bumps_pre _ _ (fun h hh => hh) (sweep_pre p i)
theorem lvR_lev {l : List Nd} : ∀ (r : Nat) (f g : Nat → Int), Pre l f → lvR l r f = some g → Lev l g
  | 0, f, g, _, h => by cases h
  | r + 1, f, g, p, h => by
    rw [lvR] at h
    split at h
    · exact lvR_lev r _ g (sweep_pre p _) h
    · rename_i hc
      have hc' : (sweepTo l f l.length).2 = false := by simpa using hc
      obtain ⟨a, b⟩ := sweep_no l f l.length hc'
      injection h with h
      rw [a] at h
      have hg : g = f := h.symm
      rw [hg]
      refine ⟨fun i _ => p.lo i, fun i hi h' hh => b i hi h' hh, fun i hi => ?_⟩
      rcases p.ti i hi with h0 | ⟨h', x, y⟩
      · exact Or.inl h0
      · exact Or.inr ⟨h', x, by have := b i hi h' x; omega⟩
/-- what the reference tells are levels -/
theorem levels_lev {l : List Nd} {g : Nat → Int} (h : levels l = some g) : Lev l g := lvR_lev _ _ g ⟨fun _ => Int.le_refl _, fun _ _ => Or.inl rfl⟩ h
/-- there is one way alone to tell them -/
theorem lev_le {l : List Nd} (hk : Ok l) {g g' : Nat → Int} (h : Lev l g) (h' : Lev l g') : ∀ (n : Nat) (i : Nat), i < l.length → (g i).toNat ≤ n → g i ≤ g' i
  | 0, i, hi, hn => by have a := h.lo i hi; have b := h'.lo i hi; omega
  | n + 1, i, hi, hn => by
    rcases h.ti i hi with h0 | ⟨q, hq, e⟩
    · rw [h0]; exact h'.lo i hi
    · have hql := hgs_lt hk hi hq
      have a := h.lo q hql
      have ih := lev_le hk h h' n q hql (by omega)
      have := h'.up i hi q hq
      omega
theorem lev_one {l : List Nd} (hk : Ok l) {g g' : Nat → Int} (h : Lev l g) (h' : Lev l g') (i : Nat) (hi : i < l.length) : g i = g' i :=
  Int.le_antisymm (lev_le hk h h' _ i hi (Nat.le_refl _)) (lev_le hk h' h _ i hi (Nat.le_refl _))
end Go.Proofs.Ytpdcmehjndhcjaa
