/- Layer 19: what is asked of a waveform that may be, for its dump. -/
import Derived.Test.YtodpljgajjcdoaaGreatDoorDD
namespace Go.Proofs.YtodpljgajjcdoaaGreatDoor
set_option maxRecDepth 100000
open Go.RowKit Lg Nl Go.Maps Wf Vd
set_option linter.unusedVariables false
set_option linter.unusedSimpArgs false

structure Nice (x : Wv) : Prop where
  ln : x.nm.length ≤ 4096
  lw : x.wd.length = x.nm.length
  lf : x.fi.length = x.nm.length
  nm : ∀ i, i < x.nm.length → (sA x.nm i).size ≤ 256
  fi : ∀ i, i < x.nm.length → (sA x.fi i).size ≤ 256
  wd : ∀ i, i < x.nm.length → 0 ≤ iA x.wd i ∧ iA x.wd i ≤ 256
  li : ∀ i, i < x.li.length → (0 ≤ (cA x.li i).t ∧ (cA x.li i).t ≤ 4611686018427387903) ∧ (0 ≤ (cA x.li i).n ∧ (cA x.li i).n < 4096) ∧ (cA x.li i).v.size ≤ 256
theorem vec_size {s : ByteArray} (h : vec (L s) = true) : s.size ≤ 256 := by
  unfold vec at h
  rw [Bool.and_eq_true] at h
  have := (of_decide_eq_true h.1).2
  simpa [L] using this
theorem ls_vec (wd : List Int) : ∀ (l : List Ch) (p : Option Ch) (now : List ByteArray), lsB wd p now l = true → ∀ c ∈ l, c.v.size ≤ 256
  | [], _, _, _, c, hc => by cases hc
  | d :: ds, p, now, h, c, hc => by
    have h' := h
    unfold lsB at h'
    simp only [Bool.and_eq_true] at h'
    rcases List.mem_cons.1 hc with rfl | hc
    · exact vec_size h'.1.1.1.2
    · exact ls_vec wd ds _ _ h'.2 c hc
theorem nice_of {x : Wv} (h : mayW x = true) : Nice x := by
  obtain ⟨h1, h2, h3⟩ := may_parts h
  obtain ⟨l1, l2, l3⟩ := may_len h
  have hn : ∀ i, i < x.nm.length → netB x i = true := fun i hi => by
    rw [List.all_eq_true] at h2
    exact h2 i (List.mem_range.2 hi)
  have hn2 : ∀ i, i < x.nm.length → (sA x.nm i).size ≤ 256 ∧ (sA x.fi i).size ≤ 256 ∧ ((sA x.fi i).size : Int) = iA x.wd i := fun i hi => by
    have h := hn i hi
    unfold netB at h
    rw [Bool.and_eq_true, Bool.and_eq_true] at h
    have h4 := h.1.1
    unfold nameB at h4
    rw [Bool.and_eq_true] at h4
    exact ⟨of_decide_eq_true h4.2, vec_size h.1.2, of_decide_eq_true h.2⟩
  refine ⟨l1, l2, l3, fun i hi => (hn2 i hi).1, fun i hi => (hn2 i hi).2.1, fun i hi => by have := hn2 i hi; omega, fun i hi => ?_⟩
  have hm := cA_mem hi
  have a := ls_mem x.wd x.li none x.fi h3 _ hm
  exact ⟨⟨a.2.2.1, a.2.2.2⟩, ⟨a.1, by have := a.2.1; omega⟩, ls_vec x.wd x.li none x.fi h3 _ hm⟩
theorem itoa_len (n : Int) (h0 : 0 ≤ n) (h1 : n ≤ 9223372036854775807) : (Lib.itoa n).length ≤ 21 := Lib.itoa_length_le n (by omega) h1
theorem und_no {x : Wv} (h : ∀ j, j < x.nm.length → L (sA x.nm j) ≠ [95]) : undB x = false := by
  unfold undB
  rw [List.any_eq_false]
  intro s hs
  obtain ⟨j, hj, rfl⟩ := List.mem_iff_getElem.1 hs
  have := h j hj
  rw [sA_at hj] at this
  simpa using this
theorem und_yes {x : Wv} {j : Nat} (hj : j < x.nm.length) (h : L (sA x.nm j) = [95]) : undB x = true := by
  unfold undB
  rw [List.any_eq_true]
  exact ⟨sA x.nm j, sA_mem hj, by simpa using h⟩
end Go.Proofs.YtodpljgajjcdoaaGreatDoor
