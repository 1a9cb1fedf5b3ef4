/- Gates that are handed in, opened. -/
import Derived.Test.YtpdcmehjndhcjaaRows
import Derived.Test.YtpdcmehjndhcjaaKLl
import Derived.Test.YtpdcmehjndhcjaaKY
namespace Go.Proofs.Ytpdcmehjndhcjaa
open Go.ChangeShapes Go.WideShapes Go.ChangeAt Go.RowKit Lg Nl
set_option linter.unusedVariables false

theorem cellsGt : Try.prog.cellsOf 58 = 5 := by kernel_rfl
theorem bytesGt : Try.prog.bytesOf 58 = 40 := by kernel_rfl
section
variable {H : Type} {enc : TypeId × Value → H} {W : World} {spare : Nat → Bool} {held : Bool} {fuel : Nat} {cs : List Value} {x : DataW H × List MemPlace}
theorem op_gate (h : DataW.trod enc Try.prog W 0 spare held fuel 58 cs = some x) : ∃ f : Nat → Int, ∀ q, q < 5 → cs[q]? = some (.int .i64 (f q)) := by
  obtain ⟨xs, n, rfl, rfl, hl, hxl, hf⟩ := DataW.trod_struct Try.underlying58 h
  rw [cellsGt] at hl
  match cs, hl with
  | [c0, c1, c2, c3, c4], _ =>
    match xs, hxl with
    | [x0, x1, x2, x3, x4], _ =>
      have g0 : DataW.trod enc Try.prog W 0 spare held n 3 [c0] = some x0 := by simpa [cellsI] using hf 0 _ rfl
      have g1 : DataW.trod enc Try.prog W 0 spare held n 3 [c1] = some x1 := by simpa [cellsI] using hf 1 _ rfl
      have g2 : DataW.trod enc Try.prog W 0 spare held n 3 [c2] = some x2 := by simpa [cellsI] using hf 2 _ rfl
      have g3 : DataW.trod enc Try.prog W 0 spare held n 3 [c3] = some x3 := by simpa [cellsI] using hf 3 _ rfl
      have g4 : DataW.trod enc Try.prog W 0 spare held n 3 [c4] = some x4 := by simpa [cellsI] using hf 4 _ rfl
      obtain ⟨z0, e0, _, _⟩ := DataW.trod_int Try.underlying3 g0
      obtain ⟨z1, e1, _, _⟩ := DataW.trod_int Try.underlying3 g1
      obtain ⟨z2, e2, _, _⟩ := DataW.trod_int Try.underlying3 g2
      obtain ⟨z3, e3, _, _⟩ := DataW.trod_int Try.underlying3 g3
      obtain ⟨z4, e4, _, _⟩ := DataW.trod_int Try.underlying3 g4
      simp only [List.cons.injEq, and_true] at e0 e1 e2 e3 e4
      subst e0 e1 e2 e3 e4
      refine ⟨fun q => [z0, z1, z2, z3, z4].getD q 0, fun q hq => ?_⟩
      match q, hq with
      | 0, _ => rfl
      | 1, _ => rfl
      | 2, _ => rfl
      | 3, _ => rfl
      | 4, _ => rfl
theorem op_gates (h : DataW.trod enc Try.prog W 0 spare held fuel 35 cs = some x) : ∃ v m F, cs = [v] ∧ GsAt W W.heap.size v m F ∧ (Rch 35 x.1 → m * 40 ≤ reachBytes) := by
  rcases Go.Deep.open_slice Try.underlying35 h with ⟨rfl, rfl⟩ | ⟨a, len, cap, m, n, D, Pl, rfl, _, hl, hm, hmm, rfl, hx⟩
  · exact ⟨_, 0, fun _ _ => 0, rfl, ⟨none, 0, rfl, Or.inl rfl⟩, fun _ => by decide⟩
  · have hlm : len ≤ m := by rw [hmm]; split <;> omega
    rw [cellsGt] at hx
    have hv : ∀ i, i < len → ∃ f : Nat → Int, ∀ q, q < 5 → W.cell? (a.add (i * 5 + q)) = some (.int .i64 (f q)) := fun i hi => by
      obtain ⟨cs', h1, h2⟩ := hx i (by omega)
      obtain ⟨f, hf⟩ := op_gate h2
      refine ⟨f, fun q hq => ?_⟩
      have := (World.cells?_some h1).2.2 q hq
      rw [Go.Deep.add_add] at this
      rw [this]; exact hf q hq
    obtain ⟨F, hF⟩ := Go.Deep.choose_lt (α := Nat → Int) (fun i hi => hv i hi)
    refine ⟨_, len, fun i => F i, rfl, ⟨some a, cap, rfl, ?_⟩, fun hr => ?_⟩
    · by_cases h0 : len = 0
      · exact Or.inl h0
      · have c0 := hF 0 (by omega) 0 (by omega)
        have hsp := World.cell?_spot c0
        have hbl := cellLt c0
        obtain ⟨b, off, spot⟩ := a
        have hspot : spot = none := by simpa [Addr.add] using hsp
        subst hspot
        refine Or.inr ⟨b, off, rfl, by simpa [Addr.add] using hbl, Nat.le_refl _, fun i q hi hq => ?_⟩
        have c := hF i hi q hq
        rw [addO] at c
        rw [Nat.add_assoc]; exact c
    · unfold Rch DataW.weights at hr
      rw [Try.underlying35] at hr
      simp only [List.all_cons, Bool.and_eq_true, decide_eq_true_eq, List.length_map, List.length_range, bytesGt] at hr
      have := hr.1
      omega
end
theorem open_gates {H : Type} {enc : TypeId × Value → H} {W : World} {base : Nat} {v : Value} {d : DataW H} {p : List MemPlace} (hv : Value.okWide Try.prog W .any base 35 v) (h : DataW.Trod enc Try.prog W 0 (fun _ => true) true 35 v d p) :
    ∃ m F, GsAt W W.heap.size v m F ∧ (Rch 35 d → m ≤ 17592186044416) := by
  obtain ⟨a, n, c, rfl⟩ := okWide_slice Try.underlying35 hv
  obtain ⟨fuel, hf⟩ := h
  obtain ⟨v', m, F, e, hG, hr⟩ := op_gates hf
  have e' : Value.slice a n c = v' := by simpa [Value.cells] using e
  subst e'
  have hR : reachBytes = 140737488351232 := rfl
  exact ⟨m, F, hG, fun h => by have := hr h; omega⟩
end Go.Proofs.Ytpdcmehjndhcjaa
