/- Events, their order, heaps of them: plain. -/
import Derived.Test.YtfjkhcpneehdjaaProg
namespace Go.Proofs.Ytfjkhcpneehdjaa
namespace Qu
set_option linter.unusedVariables false

/-- an event -/
structure Ev where
  t : Int
  nd : Int
  v : ByteArray
  fr : Int
  sq : Int
  an : Bool
def ev0 : Ev := ⟨0, 0, ⟨#[]⟩, 0, 0, false⟩
/-- which event comes ahead -/
def lt (a b : Ev) : Prop := a.t < b.t ∨ a.t = b.t ∧ (a.nd < b.nd ∨ a.nd = b.nd ∧ (a.fr < b.fr ∨ a.fr = b.fr ∧ a.sq < b.sq))
instance (a b : Ev) : Decidable (lt a b) := by unfold lt; infer_instance
def le (a b : Ev) : Prop := ¬ lt b a
theorem lt_le {a b : Ev} (h : lt a b) : le a b := by unfold le lt at *; omega
theorem le_refl (a : Ev) : le a a := by unfold le lt; omega
theorem le_trans {a b c : Ev} (h : le a b) (k : le b c) : le a c := by unfold le lt at *; omega
theorem le_total (a b : Ev) : le a b ∨ le b a := by unfold le lt; omega
/-- the event at a place -/
def g (l : List Ev) (i : Nat) : Ev := l.getD i ev0
theorem g_at {l : List Ev} {i : Nat} (h : i < l.length) : g l i = l[i] := by unfold g; rw [List.getD_eq_getElem?_getD, List.getElem?_eq_getElem h]; rfl
theorem g_some {l : List Ev} {i : Nat} (h : i < l.length) : l[i]? = some (g l i) := by rw [g_at h, List.getElem?_eq_getElem h]
def swp (l : List Ev) (i k : Nat) : List Ev := (l.set i (g l k)).set k (g l i)
theorem swp_len (l : List Ev) (i k : Nat) : (swp l i k).length = l.length := by simp [swp]
theorem g_swp {l : List Ev} {i k : Nat} (hi : i < l.length) (hk : k < l.length) (c : Nat) : g (swp l i k) c = if c = k then g l i else if c = i then g l k else g l c := by
  unfold swp g
  rw [List.getD_eq_getElem?_getD, List.getElem?_set, List.getElem?_set]
  simp only [List.length_set]
  by_cases e1 : c = k
  · subst e1; simp [hk]
  · by_cases e2 : c = i
    · subst e2; simp [e1, Ne.symm e1, hi]
    · simp [e1, e2, Ne.symm e1, Ne.symm e2]
theorem swp_same {l : List Ev} {i : Nat} (hi : i < l.length) : swp l i i = l := by
  apply List.ext_getElem (by simp [swp])
  intro n h1 h2
  simp [swp, List.getElem_set]
  rintro rfl
  exact g_at hi
theorem swp_perm {l : List Ev} {i k : Nat} (hi : i < l.length) (hk : k < l.length) : (swp l i k).Perm l := by
  unfold swp
  rw [g_at hi, g_at hk]
  exact List.set_set_perm hi hk
/-- a heap, of the first n -/
def Hp (l : List Ev) (n : Nat) : Prop := ∀ c, 1 ≤ c → c < n → le (g l ((c - 1) / 2)) (g l c)
/-- a heap but for one place -/
structure Ho (l : List Ev) (n i : Nat) : Prop where
  p : ∀ c, 1 ≤ c → c < n → c ≠ i → (c - 1) / 2 ≠ i → le (g l ((c - 1) / 2)) (g l c)
  s : ∀ c, 1 ≤ c → c < n → (c - 1) / 2 = i → 1 ≤ i → le (g l ((i - 1) / 2)) (g l c)
def Ch (l : List Ev) (n i : Nat) : Prop := ∀ c, 1 ≤ c → c < n → (c - 1) / 2 = i → le (g l i) (g l c)
theorem up_step {l : List Ev} {n j : Nat} (h : Ho l n j) (hc : Ch l n j) (hj : 1 ≤ j) (hn : j < n) (hl : n ≤ l.length) (hlt : lt (g l j) (g l ((j - 1) / 2))) : Ho (swp l ((j - 1) / 2) j) n ((j - 1) / 2) ∧ Ch (swp l ((j - 1) / 2) j) n ((j - 1) / 2) := by
  obtain ⟨i, hi⟩ : ∃ i, i = (j - 1) / 2 := ⟨_, rfl⟩
  rw [← hi] at hlt ⊢
  have hij : i < j := by omega
  have G := g_swp (l := l) (i := i) (k := j) (by omega) (by omega)
  refine ⟨⟨fun c c1 cn ci pi => ?_, fun c c1 cn pi i1 => ?_⟩, fun c c1 cn pi => ?_⟩
  · rw [G, G]
    have hcj : c ≠ j := fun e => by subst e; exact pi hi.symm
    by_cases e : (c - 1) / 2 = j
    · rw [if_pos e, if_neg hcj, if_neg ci]
      have := h.s c c1 cn e hj
      rw [← hi] at this
      exact this
    · rw [if_neg e, if_neg pi, if_neg hcj, if_neg ci]
      exact h.p c c1 cn hcj e
  · rw [G, G]
    have k1 : (i - 1) / 2 ≠ j := by omega
    have k2 : (i - 1) / 2 ≠ i := by omega
    have p1 := h.p i i1 (by omega) (by omega) k1
    rw [if_neg k1, if_neg k2]
    by_cases e : c = j
    · subst e; rw [if_pos rfl]; exact p1
    · rw [if_neg e, if_neg (by omega)]
      have := h.p c c1 cn e (by omega)
      rw [pi] at this
      exact le_trans p1 this
  · rw [G, G, if_neg (by omega), if_pos rfl]
    by_cases e : c = j
    · subst e; rw [if_pos rfl]; exact lt_le hlt
    · rw [if_neg e, if_neg (by omega)]
      have := h.p c c1 cn e (by omega)
      rw [pi] at this
      exact le_trans (lt_le hlt) this
theorem up_end {l : List Ev} {n j : Nat} (h : Ho l n j) (hc : Ch l n j) (he : j = 0 ∨ ¬ lt (g l j) (g l ((j - 1) / 2))) : Hp l n := fun c c1 cn => by
  by_cases e1 : (c - 1) / 2 = j
  · have := hc c c1 cn e1; rw [e1]; exact this
  · by_cases e2 : c = j
    · subst e2
      rcases he with he | he
      · omega
      · exact he
    · exact h.p c c1 cn e2 e1
theorem down_step {l : List Ev} {n i j : Nat} (h : Ho l n i) (hj1 : 1 ≤ j) (hjn : j < n) (hp : (j - 1) / 2 = i) (hl : n ≤ l.length) (hlt : lt (g l j) (g l i)) (hm : ∀ c, 1 ≤ c → c < n → (c - 1) / 2 = i → le (g l j) (g l c)) : Ho (swp l i j) n j ∧ le (g (swp l i j) ((j - 1) / 2)) (g (swp l i j) j) := by
  have G := g_swp (l := l) (i := i) (k := j) (by omega) (by omega)
  refine ⟨⟨fun c c1 cn cj pj => ?_, fun c c1 cn pj j1 => ?_⟩, ?_⟩
  · rw [G, G, if_neg pj, if_neg cj]
    by_cases e1 : (c - 1) / 2 = i
    · rw [if_pos e1, if_neg (by omega)]
      exact hm c c1 cn e1
    · rw [if_neg e1]
      by_cases e2 : c = i
      · subst e2
        rw [if_pos rfl]
        exact h.s j hj1 hjn hp c1
      · rw [if_neg e2]
        exact h.p c c1 cn e2 e1
  · rw [G, G, hp, if_neg (by omega), if_pos rfl, if_neg (by omega), if_neg (by omega)]
    have := h.p c c1 cn (by omega) (by omega)
    rw [pj] at this
    exact this
  · rw [G, G, hp, if_neg (by omega), if_pos rfl, if_pos rfl]
    exact lt_le hlt
theorem down_end {l : List Ev} {n i : Nat} (h : Ho l n i) (hc : Ch l n i) (he : 1 ≤ i → le (g l ((i - 1) / 2)) (g l i)) : Hp l n := up_end h hc (by
  rcases Nat.eq_zero_or_pos i with e | e
  · exact Or.inl e
  · exact Or.inr (he e))
theorem Hp.push {l : List Ev} (h : Hp l l.length) (e : Ev) : Ho (l ++ [e]) (l.length + 1) l.length ∧ Ch (l ++ [e]) (l.length + 1) l.length := by
  have G : ∀ c, c < l.length → g (l ++ [e]) c = g l c := fun c hc => by unfold g; rw [List.getD_eq_getElem?_getD, List.getElem?_append_left hc, List.getD_eq_getElem?_getD]
  refine ⟨⟨fun c c1 cn ci pi => ?_, fun c c1 cn pi => by omega⟩, fun c c1 cn pi => by omega⟩
  rw [G _ (by omega), G _ (by omega)]
  exact h c c1 (by omega)
theorem Hp.hole {l : List Ev} {m i : Nat} (h : Hp l (m + 1)) (hl : l.length = m + 1) (hi : i < m) : Ho (swp l i m) m i := by
  have G := g_swp (l := l) (i := i) (k := m) (by omega) (by omega)
  refine ⟨fun c c1 cn ci pi => ?_, fun c c1 cn pi i1 => ?_⟩
  · rw [G, G, if_neg (by omega), if_neg pi, if_neg (by omega), if_neg ci]
    exact h c c1 (by omega)
  · rw [G, G, if_neg (by omega), if_neg (by omega), if_neg (by omega), if_neg (by omega)]
    have a := h i i1 (by omega)
    have b := h c c1 (by omega)
    rw [pi] at b
    exact le_trans a b
theorem Hp.root {l : List Ev} {n : Nat} (h : Hp l n) : ∀ c, c < n → le (g l 0) (g l c) := by
  intro c
  induction c using Nat.strongRecOn with
  | _ c ih =>
    intro hc
    rcases Nat.eq_zero_or_pos c with e | e
    · subst e; exact le_refl _
    · exact le_trans (ih ((c - 1) / 2) (by omega) (by omega)) (h c e hc)
theorem Hp.congr {l l' : List Ev} {n : Nat} (h : Hp l n) (e : ∀ c, c < n → g l' c = g l c) : Hp l' n := fun c c1 cn => by rw [e _ (by omega), e _ cn]; exact h c c1 cn
theorem Hp.mono {l : List Ev} {n m : Nat} (h : Hp l n) (hm : m ≤ n) : Hp l m := fun c c1 cn => h c c1 (by omega)
/-- what a walk within a heap leaves as it was: which events, those from n on -/
structure Wk (l0 l : List Ev) (n : Nat) : Prop where
  perm : l.Perm l0
  tail : ∀ c, n ≤ c → g l c = g l0 c
theorem Wk.refl (l : List Ev) (n : Nat) : Wk l l n := ⟨List.Perm.refl _, fun _ _ => rfl⟩
theorem Wk.len {l0 l : List Ev} {n : Nat} (h : Wk l0 l n) : l.length = l0.length := h.perm.length_eq
theorem Wk.swp {l0 l : List Ev} {n i k : Nat} (h : Wk l0 l n) (hi : i < n) (hk : k < n) (hn : n ≤ l.length) : Wk l0 (swp l i k) n :=
  ⟨(swp_perm (by omega) (by omega)).trans h.perm, fun c hc => by rw [g_swp (by omega) (by omega), if_neg (by omega), if_neg (by omega)]; exact h.tail c hc⟩
theorem Wk.trans {l0 l1 l2 : List Ev} {n : Nat} (h : Wk l0 l1 n) (k : Wk l1 l2 n) : Wk l0 l2 n := ⟨k.perm.trans h.perm, fun c hc => (k.tail c hc).trans (h.tail c hc)⟩
theorem take_last {l : List Ev} {m : Nat} (h : l.length = m + 1) : l = l.take m ++ [g l m] := by
  rw [g_at (by omega), ← List.take_succ_eq_append_getElem (by omega), ← h, List.take_length]
theorem g_take {l : List Ev} {m c : Nat} (hc : c < m) : g (l.take m) c = g l c := by
  unfold g; rw [List.getD_eq_getElem?_getD, List.getElem?_take, if_pos hc, List.getD_eq_getElem?_getD]
end Qu
end Go.Proofs.Ytfjkhcpneehdjaa
