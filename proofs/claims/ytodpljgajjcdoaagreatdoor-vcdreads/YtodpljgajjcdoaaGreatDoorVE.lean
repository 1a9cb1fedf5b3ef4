/- Layer 18: whether a waveform begins another one, or is the same (the document's; names held too). -/
import Derived.Test.YtodpljgajjcdoaaGreatDoorVD
namespace Go.Proofs.YtodpljgajjcdoaaGreatDoor
set_option maxRecDepth 100000
open Go.RowKit Lg Nl Go.Maps Wf
set_option linter.unusedVariables false
set_option linter.unusedSimpArgs false

theorem ext_s {a b : List ByteArray} (hl : a.length = b.length) (h : ∀ j, j < a.length → sA a j = sA b j) : a = b := List.ext_getElem hl fun j h1 h2 => by have := h j h1; rw [sA_at h1, sA_at h2] at this; exact this
theorem ext_i {a b : List Int} (hl : a.length = b.length) (h : ∀ j, j < a.length → iA a j = iA b j) : a = b := List.ext_getElem hl fun j h1 h2 => by have := h j h1; rw [iA_at h1, iA_at h2] at this; exact this
theorem ext_c {a b : List Ch} (hl : a.length ≤ b.length) (h : ∀ j, j < a.length → cA a j = cA b j) : a = b.take a.length := List.ext_getElem (by rw [List.length_take]; omega) fun j h1 h2 => by have := h j h1; rw [cA_at h1, cA_at (by omega)] at this; rw [List.getElem_take]; exact this
theorem ne_s {a b : List ByteArray} {j : Nat} (h : sA a j ≠ sA b j) : a ≠ b := fun e => h (by rw [e])
theorem ne_i {a b : List Int} {j : Nat} (h : iA a j ≠ iA b j) : a ≠ b := fun e => h (by rw [e])
theorem ne_c {a b : List Ch} {j : Nat} (hj : j < a.length) (h : cA a j ≠ cA b j) : a ≠ b.take a.length := fun e => h (by
  have h1 : j < (b.take a.length).length := by rw [← e]; exact hj
  have h2 : j < b.length := by rw [List.length_take] at h1; omega
  rw [cA_at hj, cA_at h2]
  have h3 : a[j] = (b.take a.length)[j] := by simp only [← e]
  rw [h3, List.getElem_take])
theorem all_succ {p : Nat → Prop} {i : Nat} (h : ∀ j, j < i → p j) (hp : p i) : ∀ j, j < i + 1 → p j := fun j hj => by
  by_cases e : j = i
  · rw [e]; exact hp
  · exact h j (by omega)
/-- do the changes of the second begin with those of the first, their nets and first values being the same -/
def begP (x y : Wv) : Prop := x.fi = y.fi ∧ x.wd = y.wd ∧ x.nm = y.nm ∧ x.li.length ≤ y.li.length ∧ x.li = y.li.take x.li.length
def sameP (x y : Wv) : Prop := x.fi = y.fi ∧ x.wd = y.wd ∧ x.nm = y.nm ∧ x.li.length = y.li.length ∧ x.li = y.li.take x.li.length
theorem same_eq {x y : Wv} (h : sameP x y) : x = y := by
  obtain ⟨h1, h2, h3, h4, h5⟩ := h
  rw [h4, List.take_length] at h5
  cases x; cases y; simp_all
/-- lengths are small enough to be counted -/
structure Bd (x : Wv) : Prop where
  nm : x.nm.length ≤ 140737488355328
  wd : x.wd.length ≤ 140737488355328
  fi : x.fi.length ≤ 140737488355328
  li : x.li.length ≤ 140737488355328
theorem size_al (w : World) (o : Obj) : (w.alloc o).heap.size = w.heap.size + 1 := by show (w.heap.push o).size = _; simp
def tri (c : Ch) : Int × Int × ByteArray := (c.t, c.n, c.v)
theorem tri_inj {a b : Ch} (h : tri a = tri b) : a = b := by
  cases a; cases b; simp [tri] at h; simp [h]
theorem tris_inj : ∀ {a b : List Ch}, a.map tri = b.map tri → a = b
  | [], [], _ => rfl
  | [], _ :: _, h => by cases h
  | _ :: _, [], h => by cases h
  | x :: a, y :: b, h => by
    simp only [List.map_cons, List.cons.injEq] at h
    rw [tri_inj h.1, tris_inj h.2]
def begB (x y : Wv) : Bool := decide (x.fi = y.fi ∧ x.wd = y.wd ∧ x.nm = y.nm ∧ x.li.length ≤ y.li.length ∧ x.li.map tri = (y.li.take x.li.length).map tri)
def sameB (x y : Wv) : Bool := decide (x.fi = y.fi ∧ x.wd = y.wd ∧ x.nm = y.nm ∧ x.li.length = y.li.length ∧ x.li.map tri = (y.li.take x.li.length).map tri)
theorem begB_yes {x y : Wv} (h : begP x y) : true = begB x y := (decide_eq_true ⟨h.1, h.2.1, h.2.2.1, h.2.2.2.1, by rw [← h.2.2.2.2]⟩).symm
theorem begB_no {x y : Wv} (h : ¬ begP x y) : false = begB x y := (decide_eq_false fun q => h ⟨q.1, q.2.1, q.2.2.1, q.2.2.2.1, tris_inj q.2.2.2.2⟩).symm
theorem sameB_yes {x y : Wv} (h : sameP x y) : true = sameB x y := (decide_eq_true ⟨h.1, h.2.1, h.2.2.1, h.2.2.2.1, by rw [← h.2.2.2.2]⟩).symm
theorem sameB_no {x y : Wv} (h : ¬ sameP x y) : false = sameB x y := (decide_eq_false fun q => h ⟨q.1, q.2.1, q.2.2.1, q.2.2.2.1, tris_inj q.2.2.2.2⟩).symm
theorem begB_iff (x y : Wv) : begB x y = true ↔ begP x y := by
  by_cases h : begP x y
  · rw [← begB_yes h]; simp [h]
  · rw [← begB_no h]; simp [h]
theorem sameB_iff (x y : Wv) : sameB x y = true ↔ sameP x y := by
  by_cases h : sameP x y
  · rw [← sameB_yes h]; simp [h]
  · rw [← sameB_no h]; simp [h]
theorem eq_listV (u : ByteArray) : (u.toList == u.toList) = true := by rw [beq_iff_eq]
end Go.Proofs.YtodpljgajjcdoaaGreatDoor
