/- Texts KU KV KW, joined: what each part says stands ahead of it. -/
import Derived.Test.YtokepgnnepjiaaaGreatGKd
/- Netlists out of gates, plain: what stays so while nodes are added, and that such a netlist may be. -/
namespace Go.Proofs.YtokepgnnepjiaaaGreat
set_option maxRecDepth 100000
open Go.RowKit Lg Nl Go.Maps
set_option linter.unusedVariables false
set_option linter.unusedSimpArgs false

/-- a node that may stand at a place, hanging on those ahead alone -/
structure Nk (l : List Nd) (i : Nat) (x : Nd) : Prop where
  w : wideB x = true
  z : zeroB x = true
  ii : x.ins.all (inB l.length) = true
  n : nodeB x (wsOf l x.ins) = true
  ki : x.k = 2 → i < 2
  h : ∀ y ∈ hangL x, y < (i : Int)
structure Mk (l : List Nd) : Prop where
  two : 2 ≤ l.length
  in0 : (ndAt l 0).k = 2
  in1 : (ndAt l 1).k = 2
  ok : ∀ i, i < l.length → Nk l i (ndAt l i)
theorem ndAt_app {l : List Nd} {x : Nd} {i : Nat} (h : i < l.length) : ndAt (l ++ [x]) i = ndAt l i := by
  unfold ndAt; rw [List.getD_eq_getElem?_getD, List.getD_eq_getElem?_getD, List.getElem?_append_left h]
theorem ndAt_last (l : List Nd) (x : Nd) : ndAt (l ++ [x]) l.length = x := by
  unfold ndAt; rw [List.getD_eq_getElem?_getD, List.getElem?_append_right (Nat.le_refl _), Nat.sub_self]; rfl
theorem wsOf_app {l : List Nd} {x : Nd} {ins : List Int} (h : ins.all (inB l.length) = true) : wsOf (l ++ [x]) ins = wsOf l ins := by
  unfold wsOf
  apply List.map_congr_left
  intro z hz
  rw [List.all_eq_true] at h
  have := h z hz
  simp [inB] at this
  unfold wdAt
  rw [ndAt_app (by omega)]
theorem inB_mono {n m : Nat} (h : n ≤ m) {ins : List Int} (hi : ins.all (inB n) = true) : ins.all (inB m) = true := by
  rw [List.all_eq_true] at hi ⊢
  intro z hz
  have := hi z hz
  simp [inB] at this ⊢
  omega
/-- a node is added -/
theorem Mk.add {l : List Nd} (h : Mk l) {x : Nd} (hx : Nk l l.length x) : Mk (l ++ [x]) := by
  have h2 := h.two
  refine ⟨by simp; omega, by rw [ndAt_app (by omega)]; exact h.in0, by rw [ndAt_app (by omega)]; exact h.in1, fun i hi => ?_⟩
  rw [List.length_append, List.length_singleton] at hi
  by_cases he : i < l.length
  · rw [ndAt_app he]
    have a := h.ok i he
    exact ⟨a.w, a.z, inB_mono (by simp) a.ii, by rw [wsOf_app a.ii]; exact a.n, a.ki, a.h⟩
  · obtain rfl : i = l.length := by omega
    rw [ndAt_last]
    exact ⟨hx.w, hx.z, inB_mono (by simp) hx.ii, by rw [wsOf_app hx.ii]; exact hx.n, hx.ki, hx.h⟩
theorem ndAt_set {l : List Nd} {i j : Nat} {x : Nd} (hi : i < l.length) : ndAt (l.set i x) j = if j = i then x else ndAt l j := by
  unfold ndAt
  rw [List.getD_eq_getElem?_getD, List.getD_eq_getElem?_getD, List.getElem?_set]
  by_cases h : i = j
  · subst h; rw [if_pos rfl, if_pos rfl, if_pos hi]; rfl
  · rw [if_neg h, if_neg (fun e => h e.symm)]
theorem wsOf_set {l : List Nd} {i : Nat} {x : Nd} (hi : i < l.length) (hw : x.wd = (ndAt l i).wd) (ins : List Int) : wsOf (l.set i x) ins = wsOf l ins := by
  unfold wsOf
  apply List.map_congr_left
  intro z _
  unfold wdAt
  rw [ndAt_set hi]
  split
  · rename_i e; rw [e]; exact hw
  · rfl
/-- a node gives way to another one, as wide -/
theorem Mk.set {l : List Nd} (h : Mk l) {i : Nat} (hi : i < l.length) {x : Nd} (hk : x.k = (ndAt l i).k) (hw : x.wd = (ndAt l i).wd) (hx : Nk l i x) : Mk (l.set i x) := by
  have h2 := h.two
  refine ⟨by simp; omega, ?_, ?_, fun j hj => ?_⟩
  · rw [ndAt_set hi]; split
    · rename_i e; rw [hk, ← e]; exact h.in0
    · exact h.in0
  · rw [ndAt_set hi]; split
    · rename_i e; rw [hk, ← e]; exact h.in1
    · exact h.in1
  · rw [List.length_set] at hj
    rw [ndAt_set hi]
    split
    · rename_i e; subst e
      exact ⟨hx.w, hx.z, by rw [List.length_set]; exact hx.ii, by rw [wsOf_set hi hw]; exact hx.n, hx.ki, hx.h⟩
    · have a := h.ok j hj
      exact ⟨a.w, a.z, by rw [List.length_set]; exact a.ii, by rw [wsOf_set hi hw]; exact a.n, a.ki, a.h⟩
theorem Mk.may {l : List Nd} (h : Mk l) (hl : l.length ≤ 4096) {nets : List Int} (hn : nets.all (inB l.length) = true) (h0 : cnt nets 0 = 1) (h1 : cnt nets 1 = 1) : mayN l nets nets.length = true := by
  refine may_yes ⟨hl, rfl⟩ ?_ hn (fun i hi => ?_)
  · rw [List.all_eq_true]
    intro x hx
    obtain ⟨i, hi, rfl⟩ := List.getElem_of_mem hx
    have a := h.ok i hi
    rw [ndAt_eq hi] at a
    unfold shapeB
    rw [a.w, a.z, a.ii]; rfl
  · have a := h.ok i hi
    rw [ndAt_eq hi] at a
    refine ⟨a.n, fun hk => ?_⟩
    have := a.ki hk
    rcases (by omega : i = 0 ∨ i = 1) with rfl | rfl
    · exact h0
    · exact h1
theorem node_len {x : Nd} {ws : List Int} (hw : wideB x = true) (h : nodeB x ws = true) : ws.length ≤ 256 := by
  simp [wideB] at hw
  unfold nodeB at h
  repeat' split at h
  all_goals simp_all
  all_goals try omega
  unfold opWs opW at h
  repeat' split at h
  all_goals omega
theorem node_flip {x : Nd} {ws : List Int} (hk : x.k = 7) (h : nodeB x ws = true) : ws.length = 2 := by
  unfold nodeB at h
  rw [hk] at h
  simp at h
  exact h.1
/-- a netlist that may be has Ins that are there -/
theorem may_ok {l : List Nd} {nets : List Int} {pt : Int} (h : mayN l nets pt = true) : Ok l := by
  unfold mayN at h
  rw [Bool.and_eq_true, Bool.and_eq_true, Bool.and_eq_true, decide_eq_true_iff, List.all_eq_true, List.all_eq_true] at h
  obtain ⟨⟨⟨⟨h1, _⟩, h2⟩, _⟩, h4⟩ := h
  have hs : ∀ x ∈ l, wideB x = true ∧ x.ins.all (inB l.length) = true := fun x hx => by
    have := h2 x hx; rw [shape_parts, Bool.and_eq_true, Bool.and_eq_true] at this; exact ⟨this.1.1, this.2⟩
  refine ⟨h1, fun x hx => (hs x hx).2, fun x hx => ?_, fun x hx hk => ?_⟩
  · have := node_len (hs x hx).1 (h4 x hx); rw [wsOf_len] at this; exact this
  · have := node_flip hk (h4 x hx); rw [wsOf_len] at this; omega
end Go.Proofs.YtokepgnnepjiaaaGreat

/- Levels, plain: what they are, and that there is one way alone to tell them. -/
namespace Go.Proofs.YtokepgnnepjiaaaGreat
set_option maxRecDepth 100000
open Go.RowKit Lg Nl Go.Maps
set_option linter.unusedVariables false
set_option linter.unusedSimpArgs false

/-- numbers that are levels: each node is behind all that it hangs on, and just behind one of them -/
structure Lev (l : List Nd) (g : Nat → Int) : Prop where
  lo : ∀ i, i < l.length → 0 ≤ g i
  up : ∀ i, i < l.length → ∀ h ∈ hgs (ndAt l i), g h + 1 ≤ g i
  ti : ∀ i, i < l.length → g i = 0 ∨ ∃ h ∈ hgs (ndAt l i), g i = g h + 1
theorem hgs_lt {l : List Nd} (hk : Ok l) {i : Nat} (hi : i < l.length) {h : Nat} (hh : h ∈ hgs (ndAt l i)) : h < l.length := by
  unfold hgs at hh
  obtain ⟨z, hz, rfl⟩ := List.mem_map.1 hh
  have hm : ndAt l i ∈ l := ndAt_mem hi
  have hin := hk.i _ hm
  rw [List.all_eq_true] at hin
  have : inB l.length z = true := by
    unfold hangL at hz
    split at hz
    · cases hz
    · split at hz
      · exact hin z (List.mem_of_mem_take hz)
      · exact hin z hz
  simp [inB] at this
  omega
/-- one step never makes a number less -/
theorem bump_ge (i : Nat) (s : (Nat → Int) × Bool) (h q : Nat) : s.1 q ≤ (bump i s h).1 q := by
  unfold bump
  split
  · rename_i hlt
    show s.1 q ≤ if q = i then s.1 h + 1 else s.1 q
    split
    · rename_i e; rw [e]; omega
    · exact Int.le_refl _
  · exact Int.le_refl _
theorem bumps_ge (i : Nat) : ∀ (hs : List Nat) (s : (Nat → Int) × Bool) (q : Nat), s.1 q ≤ (bumps s i hs).1 q
  | [], s, q => Int.le_refl _
  | h :: r, s, q => Int.le_trans (bump_ge i s h q) (bumps_ge i r (bump i s h) q)
/-- if nothing is changed all stays, and was right -/
theorem bumps_no (i : Nat) : ∀ (hs : List Nat) (s : (Nat → Int) × Bool), (bumps s i hs).2 = false → bumps s i hs = s ∧ ∀ h ∈ hs, s.1 h + 1 ≤ s.1 i
  | [], s, _ => ⟨rfl, fun h hh => by cases hh⟩
  | h :: r, s, hc => by
    obtain ⟨a, b⟩ := bumps_no i r (bump i s h) hc
    have hs2 : (bump i s h).2 = false := by
      have : (bumps (bump i s h) i r).2 = false := hc
      rw [a] at this; exact this
    have he : bump i s h = s ∧ s.1 h + 1 ≤ s.1 i := by
      unfold bump at hs2 ⊢
      split at hs2
      · cases hs2
      · rename_i hn; rw [if_neg hn]; exact ⟨rfl, by omega⟩
    refine ⟨by show bumps (bump i s h) i r = s; rw [a, he.1], fun h' hh => ?_⟩
    rcases List.mem_cons.1 hh with rfl | hh
    · exact he.2
    · have := b h' hh; rw [he.1] at this; exact this
theorem bumps_flag (i : Nat) : ∀ (hs : List Nat) (s : (Nat → Int) × Bool), s.2 = true → (bumps s i hs).2 = true
  | [], s, h => h
  | h :: r, s, hc => bumps_flag i r (bump i s h) (by unfold bump; split; rfl; exact hc)
theorem sweep_no (l : List Nd) (f : Nat → Int) : ∀ i, (sweepTo l f i).2 = false → sweepTo l f i = (f, false) ∧ ∀ j, j < i → ∀ h ∈ hgs (ndAt l j), f h + 1 ≤ f j
  | 0, _ => ⟨rfl, fun j hj => by omega⟩
  | i + 1, hc => by
    have hc' : (bumps (sweepTo l f i) i (hgs (ndAt l i))).2 = false := hc
    have h0 : (sweepTo l f i).2 = false := by
      cases hb : (sweepTo l f i).2 with
      | false => rfl
      | true => rw [bumps_flag i _ _ hb] at hc'; cases hc'
    obtain ⟨a, b⟩ := sweep_no l f i h0
    obtain ⟨c, d⟩ := bumps_no i _ _ hc'
    refine ⟨by show bumps (sweepTo l f i) i (hgs (ndAt l i)) = _; rw [c, a], fun j hj h hh => ?_⟩
    rcases Nat.lt_succ_iff_lt_or_eq.1 hj with hj | rfl
    · exact b j hj h hh
    · have := d h hh; rw [a] at this; exact this
/-- numbers that are not below 0, nor more than just behind one -/
structure Pre (l : List Nd) (g : Nat → Int) : Prop where
  lo : ∀ i, 0 ≤ g i
  ti : ∀ i, i < l.length → g i = 0 ∨ ∃ h ∈ hgs (ndAt l i), g i ≤ g h + 1
theorem bump_pre {l : List Nd} {i h : Nat} {s : (Nat → Int) × Bool} (hh : h ∈ hgs (ndAt l i)) (p : Pre l s.1) : Pre l (bump i s h).1 := by
  have hge := bump_ge i s h
  refine ⟨fun q => Int.le_trans (p.lo q) (hge q), fun q hq => ?_⟩
  by_cases hc : s.1 i < s.1 h + 1
  · have e : (bump i s h).1 q = if q = i then s.1 h + 1 else s.1 q := by unfold bump; rw [if_pos hc]
    by_cases hqi : q = i
    · right
      subst hqi
      rw [e, if_pos rfl]
      exact ⟨h, hh, by have := hge h; omega⟩
    · rw [e, if_neg hqi]
      rcases p.ti q hq with h0 | ⟨h', a, b⟩
      · exact Or.inl h0
      · exact Or.inr ⟨h', a, by have := hge h'; omega⟩
  · have e : bump i s h = s := by unfold bump; rw [if_neg hc]
    rw [e]; exact p.ti q hq
theorem bumps_pre {l : List Nd} {i : Nat} : ∀ (hs : List Nat) (s : (Nat → Int) × Bool), (∀ h ∈ hs, h ∈ hgs (ndAt l i)) → Pre l s.1 → Pre l (bumps s i hs).1
  | [], s, _, p => p
  | h :: r, s, hm, p => bumps_pre r (bump i s h) (fun h' hh => hm h' (List.mem_cons_of_mem _ hh)) (bump_pre (hm h (List.mem_cons_self ..)) p)
theorem sweep_pre {l : List Nd} {f : Nat → Int} (p : Pre l f) : ∀ i, Pre l (sweepTo l f i).1
  | 0 => p
  | i + 1 => bumps_pre _ _ (fun h hh => hh) (sweep_pre p i)
theorem lvR_lev {l : List Nd} : ∀ (r : Nat) (f g : Nat → Int), Pre l f → lvR l r f = some g → Lev l g
  | 0, f, g, _, h => by cases h
  | r + 1, f, g, p, h => by
    rw [lvR] at h
    split at h
    · exact lvR_lev r _ g (sweep_pre p _) h
    · rename_i hc
      have hc' : (sweepTo l f l.length).2 = false := by simpa using hc
      obtain ⟨a, b⟩ := sweep_no l f l.length hc'
      injection h with h
      rw [a] at h
      have hg : g = f := h.symm
      rw [hg]
      refine ⟨fun i _ => p.lo i, fun i hi h' hh => b i hi h' hh, fun i hi => ?_⟩
      rcases p.ti i hi with h0 | ⟨h', x, y⟩
      · exact Or.inl h0
      · exact Or.inr ⟨h', x, by have := b i hi h' x; omega⟩
/-- what the reference tells are levels -/
theorem levels_lev {l : List Nd} {g : Nat → Int} (h : levels l = some g) : Lev l g := lvR_lev _ _ g ⟨fun _ => Int.le_refl _, fun _ _ => Or.inl rfl⟩ h
/-- there is one way alone to tell them -/
theorem lev_le {l : List Nd} (hk : Ok l) {g g' : Nat → Int} (h : Lev l g) (h' : Lev l g') : ∀ (n : Nat) (i : Nat), i < l.length → (g i).toNat ≤ n → g i ≤ g' i
  | 0, i, hi, hn => by have a := h.lo i hi; have b := h'.lo i hi; omega
  | n + 1, i, hi, hn => by
    rcases h.ti i hi with h0 | ⟨q, hq, e⟩
    · rw [h0]; exact h'.lo i hi
    · have hql := hgs_lt hk hi hq
      have a := h.lo q hql
      have ih := lev_le hk h h' n q hql (by omega)
      have := h'.up i hi q hq
      omega
theorem lev_one {l : List Nd} (hk : Ok l) {g g' : Nat → Int} (h : Lev l g) (h' : Lev l g') (i : Nat) (hi : i < l.length) : g i = g' i :=
  Int.le_antisymm (lev_le hk h h' _ i hi (Nat.le_refl _)) (lev_le hk h' h _ i hi (Nat.le_refl _))
end Go.Proofs.YtokepgnnepjiaaaGreat

/- Where there are levels the reference tells them; netlists out of gates have some; what goes round has none. -/
namespace Go.Proofs.YtokepgnnepjiaaaGreat
set_option maxRecDepth 100000
open Go.RowKit Lg Nl Go.Maps
set_option linter.unusedVariables false
set_option linter.unusedSimpArgs false

theorem hang_in {l : List Nd} (hk : Ok l) {i : Nat} (hi : i < l.length) {z : Int} (hz : z ∈ hangL (ndAt l i)) : inB l.length z = true := by
  have hin := hk.i _ (ndAt_mem hi)
  rw [List.all_eq_true] at hin
  unfold hangL at hz
  split at hz
  · cases hz
  · split at hz
    · exact hin z (List.mem_of_mem_take hz)
    · exact hin z hz
theorem many_in : ∀ (m : Nat) (L : List Int), (∀ v : Nat, v < m → (v : Int) ∈ L) → m ≤ L.length
  | 0, L, _ => Nat.zero_le _
  | m + 1, L, h => by
    have hm := h m (by omega)
    have ih := many_in m (L.erase (m : Int)) (fun v hv => by
      rw [List.mem_erase_of_ne (by omega)]; exact h v (by omega))
    rw [List.length_erase_of_mem hm] at ih
    have := List.length_pos_of_mem hm
    omega
theorem lev_all {l : List Nd} (hk : Ok l) {g : Nat → Int} (h : Lev l g) : ∀ (n : Nat) (i : Nat), i < l.length → (g i).toNat = n → ∀ v : Nat, v ≤ n → ∃ j, j < l.length ∧ g j = (v : Int)
  | 0, i, hi, hn, v, hv => ⟨i, hi, by have := h.lo i hi; omega⟩
  | n + 1, i, hi, hn, v, hv => by
    have a := h.lo i hi
    by_cases he : v = n + 1
    · exact ⟨i, hi, by omega⟩
    · rcases h.ti i hi with h0 | ⟨q, hq, e⟩
      · omega
      · have hql := hgs_lt hk hi hq
        have b := h.lo q hql
        exact lev_all hk h n q hql (by omega) v (by omega)
theorem lev_lt {l : List Nd} (hk : Ok l) {g : Nat → Int} (h : Lev l g) (i : Nat) (hi : i < l.length) : g i < l.length := by
  have a := h.lo i hi
  have hm := many_in ((g i).toNat + 1) ((List.range l.length).map g) (fun v hv => by
    obtain ⟨j, hj, e⟩ := lev_all hk h (g i).toNat i hi rfl v (by omega)
    exact List.mem_map.2 ⟨j, List.mem_range.2 hj, e⟩)
  rw [List.length_map, List.length_range] at hm
  omega
/-- not beyond levels -/
def Bd (l : List Nd) (g f : Nat → Int) : Prop := ∀ i, i < l.length → f i ≤ g i
theorem bump_bd {l : List Nd} (hk : Ok l) {g : Nat → Int} (hg : Lev l g) {i h : Nat} {s : (Nat → Int) × Bool} (hi : i < l.length) (hh : h ∈ hgs (ndAt l i)) (p : Bd l g s.1) : Bd l g (bump i s h).1 := by
  intro q hq
  unfold bump
  split
  · show (if q = i then s.1 h + 1 else s.1 q) ≤ g q
    split
    · rename_i e; subst e
      have a := p h (hgs_lt hk hi hh)
      have b := hg.up q hi h hh
      omega
    · exact p q hq
  · exact p q hq
theorem bumps_bd {l : List Nd} (hk : Ok l) {g : Nat → Int} (hg : Lev l g) {i : Nat} (hi : i < l.length) : ∀ (hs : List Nat) (s : (Nat → Int) × Bool), (∀ h ∈ hs, h ∈ hgs (ndAt l i)) → Bd l g s.1 → Bd l g (bumps s i hs).1
  | [], s, _, p => p
  | h :: r, s, hm, p => bumps_bd hk hg hi r (bump i s h) (fun h' hh => hm h' (List.mem_cons_of_mem _ hh)) (bump_bd hk hg hi (hm h (List.mem_cons_self ..)) p)
theorem sweep_bd {l : List Nd} (hk : Ok l) {g f : Nat → Int} (hg : Lev l g) (p : Bd l g f) : ∀ i, i ≤ l.length → Bd l g (sweepTo l f i).1
  | 0, _ => p
  | i + 1, hi => bumps_bd hk hg (by omega) _ _ (fun h hh => hh) (sweep_bd hk hg p i (by omega))
theorem bump_at (i : Nat) (s : (Nat → Int) × Bool) (h : Nat) : s.1 h + 1 ≤ (bump i s h).1 i := by
  unfold bump
  split
  · show s.1 h + 1 ≤ if i = i then s.1 h + 1 else s.1 i
    rw [if_pos rfl]; exact Int.le_refl _
  · omega
theorem bumps_at (i : Nat) : ∀ (hs : List Nat) (s : (Nat → Int) × Bool) (h : Nat), h ∈ hs → s.1 h + 1 ≤ (bumps s i hs).1 i
  | [], s, h, hh => by cases hh
  | x :: r, s, h, hh => by
    rcases List.mem_cons.1 hh with rfl | hh
    · exact Int.le_trans (bump_at i s h) (bumps_ge i r (bump i s h) i)
    · have := bumps_at i r (bump i s x) h hh
      have h2 := bump_ge i s x h
      exact Int.le_trans (by omega) this
theorem sweep_ge (l : List Nd) (f : Nat → Int) (q : Nat) : ∀ i, f q ≤ (sweepTo l f i).1 q
  | 0 => Int.le_refl _
  | i + 1 => Int.le_trans (sweep_ge l f q i) (bumps_ge i _ _ q)
theorem sweep_mono (l : List Nd) (f : Nat → Int) (q i : Nat) : ∀ d, (sweepTo l f i).1 q ≤ (sweepTo l f (i + d)).1 q
  | 0 => Int.le_refl _
  | d + 1 => Int.le_trans (sweep_mono l f q i d) (bumps_ge (i + d) _ _ q)
theorem sweep_at (l : List Nd) (f : Nat → Int) {i h : Nat} (hi : i < l.length) (hh : h ∈ hgs (ndAt l i)) : f h + 1 ≤ (sweepTo l f l.length).1 i := by
  have a := bumps_at i (hgs (ndAt l i)) (sweepTo l f i) h hh
  have b := sweep_ge l f h i
  have c := sweep_mono l f i (i + 1) (l.length - (i + 1))
  rw [show i + 1 + (l.length - (i + 1)) = l.length by omega] at c
  have d : (sweepTo l f (i + 1)).1 i = (bumps (sweepTo l f i) i (hgs (ndAt l i))).1 i := rfl
  rw [d] at c
  omega
theorem bumps_still (i : Nat) : ∀ (hs : List Nat) (s : (Nat → Int) × Bool), (∀ h ∈ hs, s.1 h + 1 ≤ s.1 i) → bumps s i hs = s
  | [], s, _ => rfl
  | h :: r, s, hh => by
    have e : bump i s h = s := by unfold bump; rw [if_neg (by have := hh h (List.mem_cons_self ..); omega)]
    show bumps (bump i s h) i r = s
    rw [e]
    exact bumps_still i r s (fun h' hm => hh h' (List.mem_cons_of_mem _ hm))
theorem sweep_still {l : List Nd} {f : Nat → Int} (h : ∀ i, i < l.length → ∀ q ∈ hgs (ndAt l i), f q + 1 ≤ f i) : ∀ i, i ≤ l.length → sweepTo l f i = (f, false)
  | 0, _ => rfl
  | i + 1, hi => by
    show bumps (sweepTo l f i) i (hgs (ndAt l i)) = _
    rw [sweep_still h i (by omega)]
    exact bumps_still i _ _ (fun q hq => h i (by omega) q hq)
theorem lvR_some {l : List Nd} (hk : Ok l) {g : Nat → Int} (hg : Lev l g) : ∀ (k r : Nat) (f : Nat → Int), Bd l g f → (∀ i, i < l.length → g i ≤ (r : Int) → f i = g i) → (∀ i, i < l.length → g i ≤ (r + k : Nat)) → lvR l (k + 1) f ≠ none
  | k, r, f, hb, hf, hm => by
    rw [lvR]
    split
    · rename_i hc
      cases k with
      | zero =>
        exfalso
        have he : ∀ i, i < l.length → f i = g i := fun i hi => hf i hi (by have := hm i hi; omega)
        have hs := sweep_still (l := l) (f := f) (fun i hi q hq => by rw [he i hi, he q (hgs_lt hk hi hq)]; exact hg.up i hi q hq) l.length (Nat.le_refl _)
        rw [hs] at hc
        cases hc
      | succ k =>
        refine lvR_some hk hg k (r + 1) _ (sweep_bd hk hg hb _ (Nat.le_refl _)) (fun i hi hle => ?_) (fun i hi => by have := hm i hi; omega)
        have b1 := sweep_bd hk hg hb l.length (Nat.le_refl _) i hi
        have b2 := sweep_ge l f i l.length
        by_cases h1 : g i ≤ (r : Int)
        · have := hf i hi h1; omega
        · have hlo := hg.lo i hi
          rcases hg.ti i hi with h0 | ⟨q, hq, e⟩
          · omega
          · have hql := hgs_lt hk hi hq
            have := hf q hql (by omega)
            have := sweep_at l f hi hq
            omega
    · simp
/-- where there are levels, the reference tells them -/
theorem levels_some {l : List Nd} (hk : Ok l) {g : Nat → Int} (hg : Lev l g) : ∃ f, levels l = some f ∧ ∀ i, i < l.length → f i = g i := by
  have h := lvR_some hk hg l.length 0 (fun _ => 0) (fun i hi => hg.lo i hi) (fun i hi h => by have := hg.lo i hi; show (0 : Int) = g i; omega) (fun i hi => by have := lev_lt hk hg i hi; omega)
  rcases he : levels l with _ | f
  · exact absurd he h
  · exact ⟨f, rfl, fun i hi => lev_one hk (levels_lev he) hg i hi⟩
/-- what goes round has none -/
theorem levels_ring {l : List Nd} (hk : Ok l) {p : Nat → Nat} {m : Nat} (hm : 0 < m) (hp : ∀ i, i ≤ m → p i < l.length) (hh : ∀ i, i < m → p (i + 1) ∈ hgs (ndAt l (p i))) (hr : p m = p 0) : levels l = none := by
  rcases he : levels l with _ | f
  · rfl
  · exfalso
    have hg := levels_lev he
    have key : ∀ i, i ≤ m → f (p i) + i ≤ f (p 0) := by
      intro i
      induction i with
      | zero => intro _; simp
      | succ i ih =>
        intro hi
        have a := ih (by omega)
        have b := hg.up (p i) (hp i (by omega)) (p (i + 1)) (hh i (by omega))
        omega
    have := key m (Nat.le_refl _)
    rw [hr] at this
    omega
theorem bump_oth {i h q : Nat} {s : (Nat → Int) × Bool} (hq : q ≠ i) : (bump i s h).1 q = s.1 q := by
  unfold bump
  split
  · show (if q = i then s.1 h + 1 else s.1 q) = s.1 q
    rw [if_neg hq]
  · rfl
theorem bumps_oth {i q : Nat} (hq : q ≠ i) : ∀ (hs : List Nat) (s : (Nat → Int) × Bool), (bumps s i hs).1 q = s.1 q
  | [], s => rfl
  | h :: r, s => (bumps_oth hq r (bump i s h)).trans (bump_oth hq)
theorem sweep_oth (l : List Nd) (f : Nat → Int) {q i : Nat} (hq : q < i) : ∀ d, (sweepTo l f (i + d)).1 q = (sweepTo l f i).1 q
  | 0 => rfl
  | d + 1 => (bumps_oth (by show q ≠ i + d; omega) _ _).trans (sweep_oth l f hq d)
/-- a netlist out of gates has levels -/
theorem Mk.levels {l : List Nd} (h : Mk l) (hk : Ok l) : ∃ f, levels l = some f ∧ Lev l f := by
  have p := sweep_pre (l := l) (f := fun _ => 0) ⟨fun _ => Int.le_refl _, fun _ _ => Or.inl rfl⟩ l.length
  have up : ∀ i, i < l.length → ∀ q ∈ hgs (ndAt l i), (sweepTo l (fun _ => 0) l.length).1 q + 1 ≤ (sweepTo l (fun _ => 0) l.length).1 i := by
    intro i hi q hq
    have hlt : q < i := by
      unfold hgs at hq
      obtain ⟨z, hz, rfl⟩ := List.mem_map.1 hq
      have a1 := (h.ok i hi).h z hz
      have a2 : inB l.length z = true := hang_in hk hi hz
      simp [inB] at a2
      omega
    have a := bumps_at i (hgs (ndAt l i)) (sweepTo l (fun _ => 0) i) q hq
    have b := sweep_oth l (fun _ => 0) hlt (l.length - i)
    have c := sweep_oth l (fun _ => 0) (q := i) (i := i + 1) (by omega) (l.length - (i + 1))
    rw [show i + (l.length - i) = l.length by omega] at b
    rw [show i + 1 + (l.length - (i + 1)) = l.length by omega] at c
    rw [b, c]
    exact a
  have hg : Lev l (sweepTo l (fun _ => 0) l.length).1 := ⟨fun i _ => p.lo i, up, fun i hi => by
    rcases p.ti i hi with h0 | ⟨q, a, b⟩
    · exact Or.inl h0
    · exact Or.inr ⟨q, a, by have := up i hi q a; omega⟩⟩
  obtain ⟨f, a, _⟩ := levels_some hk hg
  exact ⟨f, a, levels_lev a⟩
end Go.Proofs.YtokepgnnepjiaaaGreat
