/- Layer 18: WaveCuts, walked over what the program's functions tell. -/
import Derived.Test.YtodpljgajjcdoaaGreatDoorVQ
namespace Go.Proofs.YtodpljgajjcdoaaGreatDoor
set_option maxRecDepth 100000
open Go.RowKit Lg Nl Go.Maps Wf
set_option linter.unusedVariables false
set_option linter.unusedSimpArgs false

theorem belX {w a b : World} (h : Below w.drew.heap.size w.drew a) (k : Below a.heap.size a b) : Below w.heap.size w b := bel (w := w) (a := a) ((Below.refl w.heap.size w).drew.trans h) k
theorem same_self (x : Wv) : sameB x x = true := (sameB_yes ⟨rfl, rfl, rfl, rfl, (List.take_length).symm⟩).symm
theorem Wi.same {w : World} {vn vw vf vl un uw uf ul : Value} {x : Wv} (h : Wi w vn vw vf vl x) (h2 : Wi w un uw uf ul x) : Calls Tryz.prog 7 #[.agg #[vn, vw, vf, vl], .agg #[un, uw, uf, ul], .bool true] w fun e w' => e = .returned (.bool true) ∧ Below w.heap.size w w' := by
  have := sameW_c x x vn vw vf vl un uw uf ul w h.a h2.a h.b
  rw [same_self] at this
  exact this
end Go.Proofs.YtodpljgajjcdoaaGreatDoor
