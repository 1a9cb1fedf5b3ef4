/- Where there are levels the reference tells them; netlists out of gates have some; what goes round has none. -/
import Derived.Test.YtpdcmehjndhcjaaKV
namespace Go.Proofs.Ytpdcmehjndhcjaa
open Go.RowKit Lg Nl Go.Maps
set_option linter.unusedVariables false
set_option linter.unusedSimpArgs false

theorem hang_in {l : List Nd} (hk : Ok l) {i : Nat} (hi : i < l.length) {z : Int} (hz : z ∈ hangL (ndAt l i)) : inB l.length z = true := by
  have hin := hk.i _ (ndAt_mem hi)
  rw [List.all_eq_true] at hin
  unfold hangL at hz
  split at hz
  · cases hz
  · split at hz
    · exact hin z (List.mem_of_mem_take hz)
    · exact hin z hz
theorem many_in : ∀ (m : Nat) (L : List Int), (∀ v : Nat, v < m → (v : Int) ∈ L) → m ≤ L.length
  | 0, L, _ => Nat.zero_le _
  | m + 1, L, h => by
    have hm := h m (by omega)
    have ih := many_in m (L.erase (m : Int)) (fun v hv => by
      rw [List.mem_erase_of_ne (by omega)]; exact h v (by omega))
    rw [List.length_erase_of_mem hm] at ih
    have := List.length_pos_of_mem hm
    omega
theorem lev_all {l : List Nd} (hk : Ok l) {g : Nat → Int} (h : Lev l g) : ∀ (n : Nat) (i : Nat), i < l.length → (g i).toNat = n → ∀ v : Nat, v ≤ n → ∃ j, j < l.length ∧ g j = (v : Int)
  | 0, i, hi, hn, v, hv => ⟨i, hi, by have := h.lo i hi; omega⟩
  | n + 1, i, hi, hn, v, hv => by
    have a := h.lo i hi
    by_cases he : v = n + 1
    · exact ⟨i, hi, by omega⟩
    · rcases h.ti i hi with h0 | ⟨q, hq, e⟩
      · omega
      · have hql := hgs_lt hk hi hq
        have b := h.lo q hql
        exact lev_all hk h n q hql (by omega) v (by omega)
theorem lev_lt {l : List Nd} (hk : Ok l) {g : Nat → Int} (h : Lev l g) (i : Nat) (hi : i < l.length) : g i < l.length := by
  have a := h.lo i hi
  have hm := many_in ((g i).toNat + 1) ((List.range l.length).map g) (fun v hv => by
    obtain ⟨j, hj, e⟩ := lev_all hk h (g i).toNat i hi rfl v (by omega)
    exact List.mem_map.2 ⟨j, List.mem_range.2 hj, e⟩)
  rw [List.length_map, List.length_range] at hm
  omega
/-- not beyond levels -/
def Bd (l : List Nd) (g f : Nat → Int) : Prop := ∀ i, i < l.length → f i ≤ g i
theorem bump_bd {l : List Nd} (hk : Ok l) {g : Nat → Int} (hg : Lev l g) {i h : Nat} {s : (Nat → Int) × Bool} (hi : i < l.length) (hh : h ∈ hgs (ndAt l i)) (p : Bd l g s.1) : Bd l g (bump i s h).1 := by
  intro q hq
  unfold bump
  split
  · show (if q = i then s.1 h + 1 else s.1 q) ≤ g q
    split
    · rename_i e; subst e
      have a := p h (hgs_lt hk hi hh)
      have b := hg.up q hi h hh
      omega
    · exact p q hq
  · exact p q hq
theorem bumps_bd {l : List Nd} (hk : Ok l) {g : Nat → Int} (hg : Lev l g) {i : Nat} (hi : i < l.length) : ∀ (hs : List Nat) (s : (Nat → Int) × Bool), (∀ h ∈ hs, h ∈ hgs (ndAt l i)) → Bd l g s.1 → Bd l g (bumps s i hs).1
  | [], s, _, p => p
  | h :: r, s, hm, p => bumps_bd hk hg hi r (bump i s h) (fun h' hh => hm h' (List.mem_cons_of_mem _ hh)) (bump_bd hk hg hi (hm h (List.mem_cons_self ..)) p)
theorem sweep_bd {l : List Nd} (hk : Ok l) {g f : Nat → Int} (hg : Lev l g) (p : Bd l g f) : ∀ i, i ≤ l.length → Bd l g (sweepTo l f i).1
  | 0, _ => p
  | i + 1, hi => bumps_bd hk hg (by omega) _ _ (fun h hh => hh) (sweep_bd hk hg p i (by omega))
theorem bump_at (i : Nat) (s : (Nat → Int) × Bool) (h : Nat) : s.1 h + 1 ≤ (bump i s h).1 i := by
  unfold bump
  split
  · show s.1 h + 1 ≤ if i = i then s.1 h + 1 else s.1 i
    rw [if_pos rfl]; exact Int.le_refl _
  · omega
theorem bumps_at (i : Nat) : ∀ (hs : List Nat) (s : (Nat → Int) × Bool) (h : Nat), h ∈ hs → s.1 h + 1 ≤ (bumps s i hs).1 i
  | [], s, h, hh => by cases hh
  | x :: r, s, h, hh => by
    rcases List.mem_cons.1 hh with rfl | hh
    · exact Int.le_trans (bump_at i s h) (bumps_ge i r (bump i s h) i)
    · have := bumps_at i r (bump i s x) h hh
      have h2 := bump_ge i s x h
      exact Int.le_trans (by omega) this
theorem sweep_ge (l : List Nd) (f : Nat → Int) (q : Nat) : ∀ i, f q ≤ (sweepTo l f i).1 q
  | 0 => Int.le_refl _
  | i + 1 => Int.le_trans (sweep_ge l f q i) (bumps_ge i _ _ q)
theorem sweep_mono (l : List Nd) (f : Nat → Int) (q i : Nat) : ∀ d, (sweepTo l f i).1 q ≤ (sweepTo l f (i + d)).1 q
  | 0 => Int.le_refl _
  | d + 1 => Int.le_trans (sweep_mono l f q i d) (bumps_ge (i + d) _ _ q)
theorem sweep_at (l : List Nd) (f : Nat → Int) {i h : Nat} (hi : i < l.length) (hh : h ∈ hgs (ndAt l i)) : f h + 1 ≤ (sweepTo l f l.length).1 i := by
  have a := bumps_at i (hgs (ndAt l i)) (sweepTo l f i) h hh
  have b := sweep_ge l f h i
  have c := sweep_mono l f i (i + 1) (l.length - (i + 1))
  rw [show i + 1 + (l.length - (i + 1)) = l.length by omega] at c
  have d : (sweepTo l f (i + 1)).1 i = (bumps (sweepTo l f i) i (hgs (ndAt l i))).1 i := rfl
  rw [d] at c
  omega
theorem bumps_still (i : Nat) : ∀ (hs : List Nat) (s : (Nat → Int) × Bool), (∀ h ∈ hs, s.1 h + 1 ≤ s.1 i) → bumps s i hs = s
  | [], s, _ => rfl
  | h :: r, s, hh => by
    have e : bump i s h = s := by unfold bump; rw [if_neg (by have := hh h (List.mem_cons_self ..); omega)]
    show bumps (bump i s h) i r = s
    rw [e]
    exact bumps_still i r s (fun h' hm => hh h' (List.mem_cons_of_mem _ hm))
theorem sweep_still {l : List Nd} {f : Nat → Int} (h : ∀ i, i < l.length → ∀ q ∈ hgs (ndAt l i), f q + 1 ≤ f i) : ∀ i, i ≤ l.length → sweepTo l f i = (f, false)
  | 0, _ => rfl
  | i + 1, hi => by
    show bumps (sweepTo l f i) i (hgs (ndAt l i)) = _
    rw [sweep_still h i (by omega)]
    exact bumps_still i _ _ (fun q hq => h i (by omega) q hq)
theorem lvR_some {l : List Nd} (hk : Ok l) {g : Nat → Int} (hg : Lev l g) : ∀ (k r : Nat) (f : Nat → Int), Bd l g f → (∀ i, i < l.length → g i ≤ (r : Int) → f i = g i) → (∀ i, i < l.length → g i ≤ (r + k : Nat)) → lvR l (k + 1) f ≠ none
  | k, r, f, hb, hf, hm => by
    rw [lvR]
    split
    · rename_i hc
      cases k with
      | zero =>
        exfalso
        have he : ∀ i, i < l.length → f i = g i := fun i hi => hf i hi (by have := hm i hi; omega)
        have hs := sweep_still (l := l) (f := f) (fun i hi q hq => by rw [he i hi, he q (hgs_lt hk hi hq)]; exact hg.up i hi q hq) l.length (Nat.le_refl _)
        rw [hs] at hc
        cases hc
      | succ k =>
        refine lvR_some hk hg k (r + 1) _ (sweep_bd hk hg hb _ (Nat.le_refl _)) (fun i hi hle => ?_) (fun i hi => by have := hm i hi; omega)
        have b1 := sweep_bd hk hg hb l.length (Nat.le_refl _) i hi
        have b2 := sweep_ge l f i l.length
        by_cases h1 : g i ≤ (r : Int)
        · have := hf i hi h1; omega
        · have hlo := hg.lo i hi
          rcases hg.ti i hi with h0 | ⟨q, hq, e⟩
          · omega
          · have hql := hgs_lt hk hi hq
            have := hf q hql (by omega)
            have := sweep_at l f hi hq
            omega
    · simp
/-- where there are levels, the reference tells them -/
theorem levels_some {l : List Nd} (hk : Ok l) {g : Nat → Int} (hg : Lev l g) : ∃ f, levels l = some f ∧ ∀ i, i < l.length → f i = g i := by
  have h := lvR_some hk hg l.length 0 (fun _ => 0) (fun i hi => hg.lo i hi) (fun i hi h => by have := hg.lo i hi; show (0 : Int) = g i; omega) (fun i hi => by have := lev_lt hk hg i hi; omega)
  rcases he : levels l with _ | f
  · exact absurd he h
  · exact ⟨f, rfl, fun i hi => lev_one hk (levels_lev he) hg i hi⟩
/-- what goes round has none -/
theorem levels_ring {l : List Nd} (hk : Ok l) {p : Nat → Nat} {m : Nat} (hm : 0 < m) (hp : ∀ i, i ≤ m → p i < l.length) (hh : ∀ i, i < m → p (i + 1) ∈ hgs (ndAt l (p i))) (hr : p m = p 0) : levels l = none := by
  rcases he : levels l with _ | f
  · rfl
  · exfalso
    have hg := levels_lev he
    have key : ∀ i, i ≤ m → f (p i) + i ≤ f (p 0) := by
      intro i
      induction i with
      | zero => intro _; simp
      | succ i ih =>
        intro hi
        have a := ih (by omega)
        have b := hg.up (p i) (hp i (by omega)) (p (i + 1)) (hh i (by omega))
        omega
    have := key m (Nat.le_refl _)
    rw [hr] at this
    omega
theorem bump_oth {i h q : Nat} {s : (Nat → Int) × Bool} (hq : q ≠ i) : (bump i s h).1 q = s.1 q := by
  unfold bump
  split
  · show (if q = i then s.1 h + 1 else s.1 q) = s.1 q
    rw [if_neg hq]
  · rfl
theorem bumps_oth {i q : Nat} (hq : q ≠ i) : ∀ (hs : List Nat) (s : (Nat → Int) × Bool), (bumps s i hs).1 q = s.1 q
  | [], s => rfl
  | h :: r, s => (bumps_oth hq r (bump i s h)).trans (bump_oth hq)
theorem sweep_oth (l : List Nd) (f : Nat → Int) {q i : Nat} (hq : q < i) : ∀ d, (sweepTo l f (i + d)).1 q = (sweepTo l f i).1 q
  | 0 => rfl
  | d + 1 => (bumps_oth (by show q ≠ i + d; omega) _ _).trans (sweep_oth l f hq d)
/-- a netlist out of gates has levels -/
theorem Mk.levels {l : List Nd} (h : Mk l) (hk : Ok l) : ∃ f, levels l = some f ∧ Lev l f := by
  have p := sweep_pre (l := l) (f := fun _ => 0) ⟨fun _ => Int.le_refl _, fun _ _ => Or.inl rfl⟩ l.length
  have up : ∀ i, i < l.length → ∀ q ∈ hgs (ndAt l i), (sweepTo l (fun _ => 0) l.length).1 q + 1 ≤ (sweepTo l (fun _ => 0) l.length).1 i := by
    intro i hi q hq
    have hlt : q < i := by
      unfold hgs at hq
      obtain ⟨z, hz, rfl⟩ := List.mem_map.1 hq
      have a1 := (h.ok i hi).h z hz
      have a2 : inB l.length z = true := hang_in hk hi hz
      simp [inB] at a2
      omega
    have a := bumps_at i (hgs (ndAt l i)) (sweepTo l (fun _ => 0) i) q hq
    have b := sweep_oth l (fun _ => 0) hlt (l.length - i)
    have c := sweep_oth l (fun _ => 0) (q := i) (i := i + 1) (by omega) (l.length - (i + 1))
    rw [show i + (l.length - i) = l.length by omega] at b
    rw [show i + 1 + (l.length - (i + 1)) = l.length by omega] at c
    rw [b, c]
    exact a
  have hg : Lev l (sweepTo l (fun _ => 0) l.length).1 := ⟨fun i _ => p.lo i, up, fun i hi => by
    rcases p.ti i hi with h0 | ⟨q, a, b⟩
    · exact Or.inl h0
    · exact Or.inr ⟨q, a, by have := up i hi q a; omega⟩⟩
  obtain ⟨f, a, _⟩ := levels_some hk hg
  exact ⟨f, a, levels_lev a⟩
end Go.Proofs.Ytpdcmehjndhcjaa
