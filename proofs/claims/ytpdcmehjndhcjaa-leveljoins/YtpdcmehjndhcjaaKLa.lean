/- Going down a netlist, plain: what stays so while nodes are met, and what a loop is. -/
import Derived.Test.YtpdcmehjndhcjaaKW
namespace Go.Proofs.Ytpdcmehjndhcjaa
open Go.RowKit Lg Nl Go.Maps
set_option linter.unusedVariables false
set_option linter.unusedSimpArgs false

def upd {α : Type} (f : Nat → α) (i : Nat) (v : α) : Nat → α := fun q => if q = i then v else f q
theorem upd_at {α : Type} (f : Nat → α) (i : Nat) (v : α) : upd f i v i = v := if_pos rfl
theorem upd_ne {α : Type} (f : Nat → α) {i q : Nat} (v : α) (h : q ≠ i) : upd f i v q = f q := if_neg h
/-- how much is left to be done -/
def mu (st : Nat → Int) : Nat → Nat
  | 0 => 0
  | n + 1 => mu st n + (2 - st n).toNat
theorem mu_le (st : Nat → Int) : ∀ n, (∀ i, i < n → 0 ≤ st i) → mu st n ≤ 2 * n
  | 0, _ => Nat.le_refl _
  | n + 1, h => by have := mu_le st n (fun i hi => h i (by omega)); have := h n (by omega); unfold mu; omega
theorem mu_same {st st' : Nat → Int} : ∀ n, (∀ i, i < n → st i = st' i) → mu st n = mu st' n
  | 0, _ => rfl
  | n + 1, h => by unfold mu; rw [mu_same n (fun i hi => h i (by omega)), h n (by omega)]
theorem mu_upd (st : Nat → Int) (i : Nat) (v : Int) (hv : v = st i + 1) (h2 : v ≤ 2) : ∀ n, i < n → mu (upd st i v) n + 1 = mu st n
  | 0, h => by omega
  | n + 1, h => by
    unfold mu
    by_cases e : i = n
    · subst e
      rw [mu_same (st := upd st i v) (st' := st) i (fun q hq => upd_ne _ _ (by omega)), upd_at]
      omega
    · rw [upd_ne _ _ (by omega : n ≠ i)]
      have := mu_upd st i v hv h2 n (by omega)
      omega
/-- nodes that hang each on the next one, the last on the first, each once -/
structure Ring (l : List Nd) (p : List Nat) : Prop where
  pos : 0 < p.length
  nd : p.Nodup
  lt : ∀ i ∈ p, i < l.length
  hg : ∀ j a b, p[j]? = some a → p[(j + 1) % p.length]? = some b → b ∈ hgs (ndAt l a)
/-- on the way down: what is known of states, of what is looked at next, of levels, of the way -/
structure Dw (l : List Nd) (st : Nat → Int) (nx : Nat → Nat) (lv : Nat → Int) (way : List Nat) : Prop where
  s : ∀ i, i < l.length → st i = 0 ∨ st i = 1 ∨ st i = 2
  m : ∀ i, i < l.length → (st i = 1 ↔ i ∈ way)
  wl : ∀ i ∈ way, i < l.length
  nd : way.Nodup
  ch : ∀ j a b, way[j]? = some a → way[j + 1]? = some b → (hgs (ndAt l a))[nx a]? = some b
  nl : ∀ i, i < l.length → nx i ≤ (hgs (ndAt l i)).length
  pk : ∀ i, i < l.length → ∀ k h, k < nx i → (hgs (ndAt l i))[k]? = some h → st h = 2 ∧ lv h + 1 ≤ lv i
  ti : ∀ i, i < l.length → lv i = 0 ∨ ∃ k h, k < nx i ∧ (hgs (ndAt l i))[k]? = some h ∧ lv i = lv h + 1
  dn : ∀ i, i < l.length → st i = 2 → nx i = (hgs (ndAt l i)).length
  un : ∀ i, i < l.length → st i = 0 → nx i = 0
  lo : ∀ i, i < l.length → 0 ≤ lv i
theorem Dw.start (l : List Nd) : Dw l (fun _ => 0) (fun _ => 0) (fun _ => 0) [] := by
  refine ⟨fun _ _ => Or.inl rfl, fun i _ => ?_, fun i h => ?_, List.nodup_nil, fun j a b h => ?_, fun _ _ => Nat.zero_le _, fun i _ k h hk => ?_, fun _ _ => Or.inl rfl, fun _ _ h => ?_, fun _ _ _ => rfl, fun _ _ => Int.le_refl _⟩
  · simp
  · simp at h
  · simp at h
  · exact absurd hk (Nat.not_lt_zero _)
  · simp at h
/-- a node is met -/
theorem Dw.push {l : List Nd} {st : Nat → Int} {nx : Nat → Nat} {lv : Nat → Int} {way : List Nat} (d : Dw l st nx lv way) {h : Nat} (hl : h < l.length) (h0 : st h = 0)
    (hc : ∀ a, way.getLast? = some a → (hgs (ndAt l a))[nx a]? = some h) : Dw l (upd st h 1) nx lv (way ++ [h]) := by
  have hnw : h ∉ way := fun hm => by have := (d.m h hl).2 hm; omega
  have keep2 : ∀ q, st q = 2 → upd st h 1 q = 2 := fun q hq => by
    rw [upd_ne]; exact hq
    intro e; subst e; omega
  refine ⟨fun i hi => ?_, fun i hi => ?_, fun i hi => ?_, ?_, fun j a b ha hb => ?_, d.nl, fun i hi k q hk hq => ?_, d.ti, fun i hi h2 => ?_, fun i hi h2 => ?_, d.lo⟩
  · by_cases e : i = h
    · subst e; rw [upd_at]; exact Or.inr (Or.inl rfl)
    · rw [upd_ne _ _ e]; exact d.s i hi
  · by_cases e : i = h
    · subst e; rw [upd_at]; simp
    · rw [upd_ne _ _ e, d.m i hi, List.mem_append]; simp [e]
  · rcases List.mem_append.1 hi with hi | hi
    · exact d.wl i hi
    · simp at hi; rw [hi]; exact hl
  · rw [List.nodup_append]
    refine ⟨d.nd, by simp, fun a ha b hb => ?_⟩
    simp at hb; subst hb
    intro e; subst e; exact hnw ha
  · have hjl : j + 1 < (way ++ [h]).length := (List.getElem?_eq_some_iff.1 hb).1
    simp at hjl
    rw [List.getElem?_append_left (by omega)] at ha
    by_cases e : j + 1 < way.length
    · rw [List.getElem?_append_left e] at hb
      exact d.ch j a b ha hb
    · have hje : j + 1 = way.length := by omega
      rw [List.getElem?_append_right (by omega), hje, Nat.sub_self] at hb
      simp at hb
      subst hb
      apply hc
      rw [List.getLast?_eq_getElem?, show way.length - 1 = j by omega]
      exact ha
  · obtain ⟨x, y⟩ := d.pk i hi k q hk hq
    exact ⟨keep2 q x, y⟩
  · by_cases e : i = h
    · subst e; rw [upd_at] at h2; omega
    · rw [upd_ne _ _ e] at h2; exact d.dn i hi h2
  · by_cases e : i = h
    · subst e; rw [upd_at] at h2; omega
    · rw [upd_ne _ _ e] at h2; exact d.un i hi h2
theorem last_at {α : Type} (pre : List α) (n : α) : (pre ++ [n]).getLast? = some n := by simp
theorem Dw.top {l : List Nd} {st : Nat → Int} {nx : Nat → Nat} {lv : Nat → Int} {pre : List Nat} {n : Nat} (d : Dw l st nx lv (pre ++ [n])) : n < l.length ∧ st n = 1 ∧ n ∉ pre := by
  have hm : n ∈ pre ++ [n] := by simp
  have hl := d.wl n hm
  refine ⟨hl, (d.m n hl).2 hm, fun h => ?_⟩
  have := d.nd
  rw [List.nodup_append] at this
  exact this.2.2 n h n (by simp) rfl
/-- what a node hangs on has its level: the node is put behind it -/
theorem Dw.next {l : List Nd} (hk' : Ok l) {st : Nat → Int} {nx : Nat → Nat} {lv : Nat → Int} {pre : List Nat} {n h : Nat} (d : Dw l st nx lv (pre ++ [n])) (hh : (hgs (ndAt l n))[nx n]? = some h) (h2 : st h = 2) :
    Dw l st (upd nx n (nx n + 1)) (upd lv n (max (lv n) (lv h + 1))) (pre ++ [n]) := by
  obtain ⟨hnl, hn1, hnp⟩ := d.top
  have hne : h ≠ n := fun e => by subst e; omega
  have hlt : nx n < (hgs (ndAt l n)).length := (List.getElem?_eq_some_iff.1 hh).1
  have ne2 : ∀ q, st q = 2 → q ≠ n := fun q hq e => by subst e; omega
  refine ⟨d.s, d.m, d.wl, d.nd, fun j a b ha hb => ?_, fun i hi => ?_, fun i hi k q hk hq => ?_, fun i hi => ?_, fun i hi hi2 => ?_, fun i hi hi0 => ?_, fun i hi => ?_⟩
  · have hjl : j + 1 < (pre ++ [n]).length := (List.getElem?_eq_some_iff.1 hb).1
    simp at hjl
    have hap : a ∈ pre := by
      rw [List.getElem?_append_left (by omega)] at ha
      exact List.mem_of_getElem? ha
    rw [upd_ne _ _ (fun e => hnp (by rw [← e]; exact hap))]
    exact d.ch j a b ha hb
  · by_cases e : i = n
    · subst e; rw [upd_at]; omega
    · rw [upd_ne _ _ e]; exact d.nl i hi
  · by_cases e : i = n
    · subst e
      rw [upd_at] at hk
      by_cases ek : k = nx i
      · subst ek
        rw [hh] at hq; injection hq with hq; subst hq
        rw [upd_at, upd_ne _ _ hne]
        exact ⟨h2, by omega⟩
      · obtain ⟨x, y⟩ := d.pk i hi k q (by omega) hq
        rw [upd_at, upd_ne _ _ (ne2 q x)]
        exact ⟨x, by omega⟩
    · rw [upd_ne _ _ e] at hk
      obtain ⟨x, y⟩ := d.pk i hi k q hk hq
      rw [upd_ne _ _ e, upd_ne _ _ (ne2 q x)]
      exact ⟨x, y⟩
  · by_cases e : i = n
    · subst e
      rw [upd_at, upd_at]
      right
      by_cases hm : lv h + 1 ≤ lv i
      · rcases d.ti i hi with h0 | ⟨k, q, hk, hq, he⟩
        · refine ⟨nx i, h, by omega, hh, ?_⟩
          have hhl : 0 ≤ lv h := d.lo h (hgs_lt hk' hnl (List.mem_of_getElem? hh))
          omega
        · refine ⟨k, q, by omega, hq, ?_⟩
          rw [upd_ne _ _ (ne2 q (d.pk i hi k q hk hq).1)]
          omega
      · exact ⟨nx i, h, by omega, hh, by rw [upd_ne _ _ hne]; omega⟩
    · rw [upd_ne _ _ e, upd_ne _ _ e]
      rcases d.ti i hi with h0 | ⟨k, q, hk, hq, he⟩
      · exact Or.inl h0
      · exact Or.inr ⟨k, q, hk, hq, by rw [upd_ne _ _ (ne2 q (d.pk i hi k q hk hq).1)]; exact he⟩
  · rw [upd_ne _ _ (ne2 i hi2)]; exact d.dn i hi hi2
  · rw [upd_ne _ _ (fun e => by subst e; omega)]; exact d.un i hi hi0
  · by_cases e : i = n
    · subst e; rw [upd_at]; have := d.lo i hi; omega
    · rw [upd_ne _ _ e]; exact d.lo i hi
/-- a node has its level -/
theorem Dw.pop {l : List Nd} {st : Nat → Int} {nx : Nat → Nat} {lv : Nat → Int} {pre : List Nat} {n : Nat} (d : Dw l st nx lv (pre ++ [n])) (hn : nx n = (hgs (ndAt l n)).length) : Dw l (upd st n 2) nx lv pre := by
  obtain ⟨hnl, hn1, hnp⟩ := d.top
  have keep2 : ∀ q, st q = 2 → upd st n 2 q = 2 := fun q hq => by unfold upd; split <;> simp_all
  refine ⟨fun i hi => ?_, fun i hi => ?_, fun i hi => d.wl i (List.mem_append_left _ hi), (List.nodup_append.1 d.nd).1, fun j a b ha hb => ?_, d.nl, fun i hi k q hk hq => ?_, d.ti, fun i hi h2 => ?_, fun i hi h2 => ?_, d.lo⟩
  · by_cases e : i = n
    · subst e; rw [upd_at]; exact Or.inr (Or.inr rfl)
    · rw [upd_ne _ _ e]; exact d.s i hi
  · by_cases e : i = n
    · subst e; rw [upd_at]; simp [hnp]
    · rw [upd_ne _ _ e, d.m i hi, List.mem_append]; simp [e]
  · have hjl : j + 1 < pre.length := (List.getElem?_eq_some_iff.1 hb).1
    exact d.ch j a b (by rw [List.getElem?_append_left (by omega)]; exact ha) (by rw [List.getElem?_append_left (by omega)]; exact hb)
  · obtain ⟨x, y⟩ := d.pk i hi k q hk hq
    exact ⟨keep2 q x, y⟩
  · by_cases e : i = n
    · subst e; exact hn
    · rw [upd_ne _ _ e] at h2; exact d.dn i hi h2
  · by_cases e : i = n
    · subst e; rw [upd_at] at h2; omega
    · rw [upd_ne _ _ e] at h2; exact d.un i hi h2
/-- what the last one hangs on stands on the way: a ring -/
theorem Dw.ring {l : List Nd} {st : Nat → Int} {nx : Nat → Nat} {lv : Nat → Int} {pre : List Nat} {n h : Nat} (d : Dw l st nx lv (pre ++ [n])) (hh : (hgs (ndAt l n))[nx n]? = some h) {i : Nat} (hi : (pre ++ [n])[i]? = some h) : Ring l ((pre ++ [n]).drop i) := by
  have hil : i < (pre ++ [n]).length := (List.getElem?_eq_some_iff.1 hi).1
  have hlen : ((pre ++ [n]).drop i).length = (pre ++ [n]).length - i := List.length_drop
  refine ⟨by omega, d.nd.sublist (List.drop_sublist _ _), fun q hq => d.wl q (List.mem_of_mem_drop hq), fun j a b ha hb => ?_⟩
  rw [hlen] at hb
  rw [List.getElem?_drop] at ha hb
  have hjl : i + j < (pre ++ [n]).length := (List.getElem?_eq_some_iff.1 ha).1
  by_cases e : j + 1 < (pre ++ [n]).length - i
  · rw [Nat.mod_eq_of_lt e] at hb
    exact List.mem_of_getElem? (d.ch (i + j) a b ha hb)
  · have ej : j + 1 = (pre ++ [n]).length - i := by omega
    rw [ej, Nat.mod_self, Nat.add_zero, hi] at hb
    injection hb with hb
    subst hb
    have ea : a = n := by
      have : (pre ++ [n])[i + j]? = some n := by
        rw [List.getElem?_append_right (by simp at ej hil; omega), show i + j - pre.length = 0 by simp at ej hil; omega]; rfl
      rw [this] at ha; injection ha with ha; exact ha.symm
    subst ea
    exact List.mem_of_getElem? hh
/-- all nodes have their levels -/
theorem Dw.lev {l : List Nd} {st : Nat → Int} {nx : Nat → Nat} {lv : Nat → Int} (d : Dw l st nx lv []) (h : ∀ i, i < l.length → st i ≠ 0) : Lev l lv := by
  have h2 : ∀ i, i < l.length → st i = 2 := fun i hi => by
    rcases d.s i hi with a | a | a
    · exact absurd a (h i hi)
    · exact absurd ((d.m i hi).1 a) (by simp)
    · exact a
  refine ⟨d.lo, fun i hi q hq => ?_, fun i hi => ?_⟩
  · obtain ⟨k, hk, e⟩ := List.getElem_of_mem hq
    exact (d.pk i hi k q (by rw [d.dn i hi (h2 i hi)]; exact hk) (by rw [List.getElem?_eq_getElem hk, e])).2
  · rcases d.ti i hi with a | ⟨k, q, hk, hq, e⟩
    · exact Or.inl a
    · exact Or.inr ⟨q, List.mem_of_getElem? hq, e⟩
/-- a ring has no levels -/
theorem Ring.none {l : List Nd} (hk : Ok l) {p : List Nat} (h : Ring l p) : levels l = none := by
  have hp := h.pos
  have at_ : ∀ i, p[i % p.length]? = some (p.getD (i % p.length) 0) := fun i => by
    have := Nat.mod_lt i hp
    rw [List.getD_eq_getElem?_getD, List.getElem?_eq_getElem this]; rfl
  refine levels_ring hk (p := fun i => p.getD (i % p.length) 0) (m := p.length) hp (fun i _ => h.lt _ (List.mem_of_getElem? (at_ i))) (fun i hi => ?_) ?_
  · refine h.hg i _ _ ?_ (at_ (i + 1))
    have := at_ i
    rw [Nat.mod_eq_of_lt hi] at this ⊢
    exact this
  · show p.getD (p.length % p.length) 0 = p.getD (0 % p.length) 0
    rw [Nat.mod_self, Nat.zero_mod]
/-- a way is no longer than there are nodes -/
theorem nodup_le : ∀ (n : Nat) (L : List Nat), L.Nodup → (∀ z ∈ L, z < n) → L.length ≤ n
  | 0, L, _, h => by cases L with
    | nil => exact Nat.le_refl _
    | cons z r => exact absurd (h z (List.mem_cons_self ..)) (Nat.not_lt_zero _)
  | n + 1, L, hd, h => by
    have ih := nodup_le n (L.erase n) (hd.erase n) (fun z hz => by
      have h1 := h z (List.mem_of_mem_erase hz)
      have h2 : z ≠ n := fun e => by subst e; exact (List.Nodup.mem_erase_iff hd).1 hz |>.1 rfl
      omega)
    have := List.length_erase (a := n) (l := L)
    split at this <;> omega
theorem Dw.way_le {l : List Nd} {st : Nat → Int} {nx : Nat → Nat} {lv : Nat → Int} {way : List Nat} (d : Dw l st nx lv way) : way.length ≤ l.length := nodup_le _ _ d.nd d.wl
theorem Ring.len {l : List Nd} {p : List Nat} (h : Ring l p) : p.length ≤ l.length := nodup_le _ _ h.nd h.lt
end Go.Proofs.Ytpdcmehjndhcjaa
