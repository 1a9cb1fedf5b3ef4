/- Layer 19 of the program: bytes that are too many are not read. -/
import Derived.Test.YtfcongggmjijfaaGreatDoorGUr
import Derived.Test.YtfcongggmjijfaaGreatDoorDN
namespace Go.Proofs.YtfcongggmjijfaaGreatDoor
set_option maxRecDepth 100000
open Go.RowKit Lg Nl Go.Maps Wf Vd
set_option linter.unusedVariables false
set_option linter.unusedSimpArgs false

theorem readL_c : ReadL := fun s w hs _ => Read_long s w (by omega)
end Go.Proofs.YtfcongggmjijfaaGreatDoor
