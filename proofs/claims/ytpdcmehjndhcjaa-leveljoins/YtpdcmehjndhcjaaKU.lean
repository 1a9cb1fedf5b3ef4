/- Netlists out of gates, plain: what stays so while nodes are added, and that such a netlist may be. -/
import Derived.Test.YtpdcmehjndhcjaaKO
namespace Go.Proofs.Ytpdcmehjndhcjaa
open Go.RowKit Lg Nl Go.Maps
set_option linter.unusedVariables false
set_option linter.unusedSimpArgs false

/-- a node that may stand at a place, hanging on those ahead alone -/
structure Nk (l : List Nd) (i : Nat) (x : Nd) : Prop where
  w : wideB x = true
  z : zeroB x = true
  ii : x.ins.all (inB l.length) = true
  n : nodeB x (wsOf l x.ins) = true
  ki : x.k = 2 → i < 2
  h : ∀ y ∈ hangL x, y < (i : Int)
structure Mk (l : List Nd) : Prop where
  two : 2 ≤ l.length
  in0 : (ndAt l 0).k = 2
  in1 : (ndAt l 1).k = 2
  ok : ∀ i, i < l.length → Nk l i (ndAt l i)
theorem ndAt_app {l : List Nd} {x : Nd} {i : Nat} (h : i < l.length) : ndAt (l ++ [x]) i = ndAt l i := by
  unfold ndAt; rw [List.getD_eq_getElem?_getD, List.getD_eq_getElem?_getD, List.getElem?_append_left h]
theorem ndAt_last (l : List Nd) (x : Nd) : ndAt (l ++ [x]) l.length = x := by
  unfold ndAt; rw [List.getD_eq_getElem?_getD, List.getElem?_append_right (Nat.le_refl _), Nat.sub_self]; rfl
theorem wsOf_app {l : List Nd} {x : Nd} {ins : List Int} (h : ins.all (inB l.length) = true) : wsOf (l ++ [x]) ins = wsOf l ins := by
  unfold wsOf
  apply List.map_congr_left
  intro z hz
  rw [List.all_eq_true] at h
  have := h z hz
  simp [inB] at this
  unfold wdAt
  rw [ndAt_app (by omega)]
theorem inB_mono {n m : Nat} (h : n ≤ m) {ins : List Int} (hi : ins.all (inB n) = true) : ins.all (inB m) = true := by
  rw [List.all_eq_true] at hi ⊢
  intro z hz
  have := hi z hz
  simp [inB] at this ⊢
  omega
/-- a node is added -/
theorem Mk.add {l : List Nd} (h : Mk l) {x : Nd} (hx : Nk l l.length x) : Mk (l ++ [x]) := by
  have h2 := h.two
  refine ⟨by simp; omega, by rw [ndAt_app (by omega)]; exact h.in0, by rw [ndAt_app (by omega)]; exact h.in1, fun i hi => ?_⟩
  rw [List.length_append, List.length_singleton] at hi
  by_cases he : i < l.length
  · rw [ndAt_app he]
    have a := h.ok i he
    exact ⟨a.w, a.z, inB_mono (by simp) a.ii, by rw [wsOf_app a.ii]; exact a.n, a.ki, a.h⟩
  · obtain rfl : i = l.length := by omega
    rw [ndAt_last]
    exact ⟨hx.w, hx.z, inB_mono (by simp) hx.ii, by rw [wsOf_app hx.ii]; exact hx.n, hx.ki, hx.h⟩
theorem ndAt_set {l : List Nd} {i j : Nat} {x : Nd} (hi : i < l.length) : ndAt (l.set i x) j = if j = i then x else ndAt l j := by
  unfold ndAt
  rw [List.getD_eq_getElem?_getD, List.getD_eq_getElem?_getD, List.getElem?_set]
  by_cases h : i = j
  · subst h; rw [if_pos rfl, if_pos rfl, if_pos hi]; rfl
  · rw [if_neg h, if_neg (fun e => h e.symm)]
theorem wsOf_set {l : List Nd} {i : Nat} {x : Nd} (hi : i < l.length) (hw : x.wd = (ndAt l i).wd) (ins : List Int) : wsOf (l.set i x) ins = wsOf l ins := by
  unfold wsOf
  apply List.map_congr_left
  intro z _
  unfold wdAt
  rw [ndAt_set hi]
  split
  · rename_i e; rw [e]; exact hw
  · rfl
/-- a node gives way to another one, as wide -/
theorem Mk.set {l : List Nd} (h : Mk l) {i : Nat} (hi : i < l.length) {x : Nd} (hk : x.k = (ndAt l i).k) (hw : x.wd = (ndAt l i).wd) (hx : Nk l i x) : Mk (l.set i x) := by
  have h2 := h.two
  refine ⟨by simp; omega, ?_, ?_, fun j hj => ?_⟩
  · rw [ndAt_set hi]; split
    · rename_i e; rw [hk, ← e]; exact h.in0
    · exact h.in0
  · rw [ndAt_set hi]; split
    · rename_i e; rw [hk, ← e]; exact h.in1
    · exact h.in1
  · rw [List.length_set] at hj
    rw [ndAt_set hi]
    split
    · rename_i e; subst e
      exact ⟨hx.w, hx.z, by rw [List.length_set]; exact hx.ii, by rw [wsOf_set hi hw]; exact hx.n, hx.ki, hx.h⟩
    · have a := h.ok j hj
      exact ⟨a.w, a.z, by rw [List.length_set]; exact a.ii, by rw [wsOf_set hi hw]; exact a.n, a.ki, a.h⟩
theorem Mk.may {l : List Nd} (h : Mk l) (hl : l.length ≤ 4096) {nets : List Int} (hn : nets.all (inB l.length) = true) (h0 : cnt nets 0 = 1) (h1 : cnt nets 1 = 1) : mayN l nets nets.length = true := by
  refine may_yes ⟨hl, rfl⟩ ?_ hn (fun i hi => ?_)
  · rw [List.all_eq_true]
    intro x hx
    obtain ⟨i, hi, rfl⟩ := List.getElem_of_mem hx
    have a := h.ok i hi
    rw [ndAt_eq hi] at a
    unfold shapeB
    rw [a.w, a.z, a.ii]; rfl
  · have a := h.ok i hi
    rw [ndAt_eq hi] at a
    refine ⟨a.n, fun hk => ?_⟩
    have := a.ki hk
    rcases (by omega : i = 0 ∨ i = 1) with rfl | rfl
    · exact h0
    · exact h1
theorem node_len {x : Nd} {ws : List Int} (hw : wideB x = true) (h : nodeB x ws = true) : ws.length ≤ 256 := by
  simp [wideB] at hw
  unfold nodeB at h
  repeat' split at h
  all_goals simp_all
  all_goals try omega
  unfold opWs opW at h
  repeat' split at h
  all_goals omega
theorem node_flip {x : Nd} {ws : List Int} (hk : x.k = 7) (h : nodeB x ws = true) : ws.length = 2 := by
  unfold nodeB at h
  rw [hk] at h
  simp at h
  exact h.1
/-- a netlist that may be has Ins that are there -/
theorem may_ok {l : List Nd} {nets : List Int} {pt : Int} (h : mayN l nets pt = true) : Ok l := by
  unfold mayN at h
  rw [Bool.and_eq_true, Bool.and_eq_true, Bool.and_eq_true, decide_eq_true_iff, List.all_eq_true, List.all_eq_true] at h
  obtain ⟨⟨⟨⟨h1, _⟩, h2⟩, _⟩, h4⟩ := h
  have hs : ∀ x ∈ l, wideB x = true ∧ x.ins.all (inB l.length) = true := fun x hx => by
    have := h2 x hx; rw [shape_parts, Bool.and_eq_true, Bool.and_eq_true] at this; exact ⟨this.1.1, this.2⟩
  refine ⟨h1, fun x hx => (hs x hx).2, fun x hx => ?_, fun x hx hk => ?_⟩
  · have := node_len (hs x hx).1 (h4 x hx); rw [wsOf_len] at this; exact this
  · have := node_flip hk (h4 x hx); rw [wsOf_len] at this; omega
end Go.Proofs.Ytpdcmehjndhcjaa
