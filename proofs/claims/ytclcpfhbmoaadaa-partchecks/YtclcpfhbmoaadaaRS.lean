/- Parts that are handed in, opened. -/
import Derived.Test.YtclcpfhbmoaadaaGLc
import Derived.Test.YtclcpfhbmoaadaaRI
namespace Go.Proofs.Ytclcpfhbmoaadaa
open Go.ChangeShapes Go.WideShapes Go.ChangeAt Go.RowKit Lg Nl
set_option linter.unusedVariables false
set_option maxRecDepth 100000
theorem cellsSS : Try.prog.cellsOf 28 = 1 := by kernel_rfl
theorem cellsPt : Try.prog.cellsOf 30 = 3 := by kernel_rfl
section
variable {H : Type} {enc : TypeId × Value → H} {W : World} {spare : Nat → Bool} {held : Bool} {fuel : Nat} {cs : List Value} {x : DataW H × List MemPlace}
theorem op_rows (h : DataW.trod enc Try.prog W 0 spare held fuel 28 cs = some x) : ∃ v ls, cs = [v] ∧ RowsAt W v ls := by
  rcases Go.Deep.open_slice1 Try.underlying28 cellsSl h with ⟨rfl, rfl⟩ | ⟨a, len, cap, m, n, V, D, Pl, rfl, _, hl, hm, hmm, rfl, hx⟩
  · exact ⟨_, [], rfl, ⟨none, 0, rfl, Nat.le_refl _, Or.inl rfl⟩⟩
  · have hlm : len ≤ m := by rw [hmm]; split <;> omega
    have hv : ∀ i, i < len → ∃ zs : List Int, IntsAt W (V i) zs := fun i hi => by
      obtain ⟨_, t1⟩ := hx i (by omega)
      obtain ⟨v, zs, e1, hI, _⟩ := op_ints t1
      simp only [List.cons.injEq, and_true] at e1
      rw [e1]; exact ⟨zs, hI⟩
    obtain ⟨F, hF⟩ := Go.Deep.choose_lt (α := List Int) (fun i hi => hv i hi)
    refine ⟨_, (List.range len).map F, rfl, ⟨some a, cap, by simp, by simpa using hl, ?_⟩⟩
    by_cases h0 : len = 0
    · exact Or.inl (by simp [h0])
    · have c0 := (hx 0 (by omega)).1
      have hsp := World.cell?_spot c0
      have hbl := cellLt c0
      obtain ⟨b, off, spot⟩ := a
      have hspot : spot = none := by simpa [Addr.add] using hsp
      subst hspot
      refine Or.inr ⟨b, off, rfl, by simpa [Addr.add] using hbl, fun i hi => ?_⟩
      have hi' : i < len := by simpa using hi
      have c := (hx i (by omega)).1
      rw [addO] at c
      simp only [List.getElem_map, List.getElem_range]
      exact ⟨V i, hF i hi', c⟩
theorem op_parts (h : DataW.trod enc Try.prog W 0 spare held fuel 30 cs = some x) : ∃ vO vA pN of ah, cs = [vO, .int .i64 pN, vA] ∧ IntsAt W vO of ∧ RowsAt W vA ah := by
  obtain ⟨y0, y1, y2, n, rfl, hl, g0, g1, g2⟩ := Go.Deep.trod_struct3 Try.underlying30 h
  rw [cellsPt] at hl
  match cs, hl with
  | [c0, c1, c2], _ =>
    have k0 : DataW.trod enc Try.prog W 0 spare held n 24 [c0] = some y0 := by simpa [cellsSl] using g0
    have k1 : DataW.trod enc Try.prog W 0 spare held n 3 [c1] = some y1 := by simpa [cellsSl, cellsI] using g1
    have k2 : DataW.trod enc Try.prog W 0 spare held n 28 [c2] = some y2 := by simpa [cellsSl, cellsI, cellsSS] using g2
    obtain ⟨vO, of, e0, hO, _⟩ := op_ints k0
    obtain ⟨pN, e1, _, _⟩ := DataW.trod_int Try.underlying3 k1
    obtain ⟨vA, ah, e2, hA⟩ := op_rows k2
    simp only [List.cons.injEq, and_true] at e0 e1 e2
    subst e0 e1 e2
    exact ⟨_, _, pN, of, ah, rfl, hO, hA⟩
end
theorem open_parts {H : Type} {enc : TypeId × Value → H} {W : World} {base : Nat} {v : Value} {d : DataW H} {p : List MemPlace} (hv : Value.okWide Try.prog W .any base 30 v) (h : DataW.Trod enc Try.prog W 0 (fun _ => true) true 30 v d p) :
    ∃ vO vA pN of ah, v = .agg #[vO, .int .i64 pN, vA] ∧ IntsAt W vO of ∧ RowsAt W vA ah := by
  obtain ⟨fuel, hf⟩ := h
  simp only [Value.okWide, Try.underlying30] at hv
  obtain ⟨cs, rfl, _, _⟩ := hv
  obtain ⟨vO, vA, pN, of, ah, e, hO, hA⟩ := op_parts hf
  refine ⟨vO, vA, pN, of, ah, ?_, hO, hA⟩
  have e' : cs.toList = (#[vO, Value.int .i64 pN, vA] : Array Value).toList := e
  rw [Array.toList_inj.1 e']
end Go.Proofs.Ytclcpfhbmoaadaa
