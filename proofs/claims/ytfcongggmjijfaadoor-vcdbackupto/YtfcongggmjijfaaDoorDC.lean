/- Layer 19: the document's line of a value. -/
import Derived.Test.YtfcongggmjijfaaDoorDB
namespace Go.Proofs.YtfcongggmjijfaaDoor
set_option maxRecDepth 100000
open Go.RowKit Lg Nl Go.Maps Wf Vd
set_option linter.unusedVariables false
set_option linter.unusedSimpArgs false

theorem ret_strL {a b : ByteArray} (h : L a = L b) : Ending.returned (.string a) = .returned (.string b) := by rw [L_inj h]
end Go.Proofs.YtfcongggmjijfaaDoor
