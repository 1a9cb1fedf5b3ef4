/- Layer 2: tokens stand in the order of their places. -/
import Derived.Test.YtnlfepfhabaekaaXL
import Derived.Test.YtnlfepfhabaekaaMathP
namespace Go.Proofs.Ytnlfepfhabaekaa
open Go.RowKit Lg
set_option linter.unusedVariables false
set_option linter.unusedSimpArgs false

theorem tcell_at {l : List Tok} {i : Nat} {t : Tok} (h : l[i]? = some t) : (tcells l)[i * 3]? = some (.int .i64 t.k) ∧ (tcells l)[i * 3 + 1]? = some (.string (S t.x)) ∧ (tcells l)[i * 3 + 2]? = some (.int .i64 t.p) := by
  induction l generalizing i with
  | nil => cases h
  | cons a l ih =>
    have e : tcells (a :: l) = tcell a ++ tcells l := rfl
    have el : (tcell a).length = 3 := rfl
    cases i with
    | zero =>
      simp at h; subst h
      exact ⟨rfl, rfl, rfl⟩
    | succ i =>
      have := ih (i := i) (by simpa using h)
      rw [e]
      refine ⟨?_, ?_, ?_⟩
      · rw [List.getElem?_append_right (by rw [el]; omega), el, show (i + 1) * 3 - 3 = i * 3 by omega]; exact this.1
      · rw [List.getElem?_append_right (by rw [el]; omega), el, show (i + 1) * 3 + 1 - 3 = i * 3 + 1 by omega]; exact this.2.1
      · rw [List.getElem?_append_right (by rw [el]; omega), el, show (i + 1) * 3 + 2 - 3 = i * 3 + 2 by omega]; exact this.2.2
theorem Lie.get {w : World} {B g cap : Nat} {l : List Tok} (h : Lie w B g cap l) {i : Nat} {t : Tok} (hi : l[i]? = some t) :
    w.cell? ⟨g, i * 3, none⟩ = some (.int .i64 t.k) ∧ w.cell? ⟨g, i * 3 + 1, none⟩ = some (.string (S t.x)) ∧ w.cell? ⟨g, i * 3 + 2, none⟩ = some (.int .i64 t.p) := by
  obtain ⟨a, b, c⟩ := tcell_at hi
  exact ⟨h.at_ _ _ a, h.at_ _ _ b, h.at_ _ _ c⟩

end Go.Proofs.Ytnlfepfhabaekaa
