/- Layer 19: what the document's Write tells. -/
import Derived.Test.YtfcongggmjijfaaDoorDF
namespace Go.Proofs.YtfcongggmjijfaaDoor
set_option maxRecDepth 100000
open Go.RowKit Lg Nl Go.Maps Wf Vd
set_option linter.unusedVariables false
set_option linter.unusedSimpArgs false

end Go.Proofs.YtfcongggmjijfaaDoor
