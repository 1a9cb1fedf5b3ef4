/- Layer 19: has a waveform a name that is not written. -/
import Derived.Test.YtodpljgajjcdoaaGreatDoorDK
namespace Go.Proofs.YtodpljgajjcdoaaGreatDoor
set_option maxRecDepth 100000
open Go.RowKit Lg Nl Go.Maps Wf Vd
set_option linter.unusedVariables false
set_option linter.unusedSimpArgs false

theorem sameB_self (x : Wv) : sameB x x = true := by
  unfold sameB
  simp
end Go.Proofs.YtodpljgajjcdoaaGreatDoor
