/- Layer 19 of the program: what its functions tell, together. -/
import Derived.Test.YtfcongggmjijfaaDoorUS
import Derived.Test.YtfcongggmjijfaaDoorDJ
namespace Go.Proofs.YtfcongggmjijfaaDoor
set_option maxRecDepth 100000
open Go.RowKit Lg Nl Go.Maps Wf Vd
set_option linter.unusedVariables false
set_option linter.unusedSimpArgs false

theorem pd : PD := ⟨write_c, readA_c, codeW_c⟩
end Go.Proofs.YtfcongggmjijfaaDoor
