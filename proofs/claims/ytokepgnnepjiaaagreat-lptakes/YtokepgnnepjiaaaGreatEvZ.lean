/- A row of events that is handed in, opened. -/
import Derived.Test.YtokepgnnepjiaaaGreatEvO
namespace Go.Proofs.YtokepgnnepjiaaaGreat.Q
set_option maxRecDepth 100000
open Go.ChangeShapes Go.WideShapes Go.ChangeAt Go.RowKit Qu
set_option linter.unusedVariables false
set_option maxRecDepth 100000

def EvsAt (w : World) (v : Value) (l : List Ev) : Prop :=
  ∃ ao cap, v = .slice ao l.length cap ∧ l.length ≤ cap ∧ (l = [] ∨ ∃ g o, ao = some ⟨g, o, none⟩ ∧ g < w.heap.size ∧ ∀ i (h : i < l.length) j u, (evC l[i])[j]? = some u → w.cell? ⟨g, o + i * 6 + j, none⟩ = some u)
theorem EvsAt.below {B : Nat} {w w' : World} {v : Value} {l : List Ev} (h : EvsAt w v l) (hb : Below B w w') (hB : w.heap.size ≤ B) : EvsAt w' v l := by
  obtain ⟨ao, cap, rfl, hc, h⟩ := h
  refine ⟨ao, cap, rfl, hc, ?_⟩
  rcases h with h | ⟨g, o, rfl, hg, h⟩
  · exact Or.inl h
  · exact Or.inr ⟨g, o, rfl, Nat.lt_of_lt_of_le hg hb.size, fun i hi j u hu => by rw [hb.cell (p := ⟨g, o + i * 6 + j, none⟩) (Nat.lt_of_lt_of_le hg hB)]; exact h i hi j u hu⟩
section
variable {H : Type} {enc : TypeId × Value → H} {W : World} {spare : Nat → Bool} {held : Bool} {fuel : Nat} {cs : List Value} {x : DataW H × List MemPlace}
theorem op_events (h : DataW.trod enc Tryz.prog W 0 spare held fuel 22 cs = some x) : ∃ v l, cs = [v] ∧ EvsAt W v l := by
  rcases Go.Deep.open_slice Tryz.underlying22 h with ⟨rfl, rfl⟩ | ⟨a, len, cap, m, n, D, Pl, rfl, _, hl, hm, hmm, rfl, hx⟩
  · exact ⟨_, [], rfl, ⟨none, 0, rfl, Nat.le_refl _, Or.inl rfl⟩⟩
  · have hlm : len ≤ m := by rw [hmm]; split <;> omega
    rw [cellsEv] at hx
    have hv : ∀ i, i < len → ∃ y : Ev, ∀ j u, (evC y)[j]? = some u → W.cell? (a.add (i * 6 + j)) = some u := fun i hi => by
      obtain ⟨cs', h1, h2⟩ := hx i (by omega)
      obtain ⟨y, rfl⟩ := op_event h2
      refine ⟨y, fun j u hu => ?_⟩
      have hj : j < 6 := (List.getElem?_eq_some_iff.1 hu).1
      have := (World.cells?_some h1).2.2 j hj
      rw [Go.Deep.add_add] at this
      rw [this]; exact hu
    have inh : Inhabited Ev := ⟨ev0⟩
    obtain ⟨F, hF⟩ := Go.Deep.choose_lt (α := Ev) (fun i hi => hv i hi)
    refine ⟨_, (List.range len).map fun i => F i, rfl, ⟨some a, cap, by simp, by simpa using hl, ?_⟩⟩
    by_cases h0 : len = 0
    · exact Or.inl (by simp [h0])
    · have c0 := hF 0 (by omega) 0 _ rfl
      have hsp := World.cell?_spot c0
      have hbl := cellLt c0
      obtain ⟨b, off, spot⟩ := a
      have hspot : spot = none := by simpa [Addr.add] using hsp
      subst hspot
      refine Or.inr ⟨b, off, rfl, by simpa [Addr.add] using hbl, fun i hi j u hu => ?_⟩
      have hi' : i < len := by simpa using hi
      simp only [List.getElem_map, List.getElem_range] at hu
      have c := hF i hi' j u hu
      rw [addO'] at c
      rw [Nat.add_assoc]; exact c
end
theorem open_events {H : Type} {enc : TypeId × Value → H} {W : World} {v : Value} {d : DataW H} {p : List MemPlace} {base : Nat} (hv : Value.okWide Tryz.prog W .any base 22 v) (h : DataW.Trod enc Tryz.prog W 0 (fun _ => true) true 22 v d p) : ∃ l, EvsAt W v l := by
  obtain ⟨a, n, c, rfl⟩ := okWide_slice Tryz.underlying22 hv
  obtain ⟨fuel, hf⟩ := h
  obtain ⟨v', zs, e, hI⟩ := op_events hf
  have e' : Value.slice a n c = v' := by simpa [Value.cells] using e
  subst e'
  exact ⟨zs, hI⟩
end Go.Proofs.YtokepgnnepjiaaaGreat.Q
