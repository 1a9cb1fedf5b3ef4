/- Layer 19: the document's dump of a waveform that may be. -/
import Derived.Test.YtfcongggmjijfaaDoorDE
import Derived.Deep.LoopGhost
namespace Go.Proofs.YtfcongggmjijfaaDoor
set_option maxRecDepth 100000
open Go.RowKit Lg Nl Go.Maps Wf Vd
set_option linter.unusedVariables false
set_option linter.unusedSimpArgs false

theorem emp_yes {s : ByteArray} (h : s.size = 0) : s.toList.isEmpty = true := by
  rw [toL]
  have h2 : (L s).length = 0 := by rw [len_L]; exact h
  rw [List.eq_nil_of_length_eq_zero h2]
  rfl
theorem emp_no {s : ByteArray} (h : ¬ s.size = 0) : s.toList.isEmpty = false := by
  rw [toL]
  have h2 : ¬ (L s).length = 0 := by rw [len_L]; exact h
  cases e : L s with
  | nil => rw [e] at h2; exact absurd rfl h2
  | cons a b => rfl
theorem ints_lt {w : World} {g o n c : Nat} {l : List Int} (h : IntsAt w (.slice (some ⟨g, o, none⟩) n c) l) (i : Nat) (hi : i < l.length) : g < w.heap.size := by
  obtain ⟨g', o', e, h1, _⟩ := IntsAt.at_ h i hi
  injection e with e
  injection e with e1
  rw [e1]; exact h1
end Go.Proofs.YtfcongggmjijfaaDoor
