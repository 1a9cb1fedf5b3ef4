/- Layer 18: whether two waveforms are the same (the document's; names held too). -/
import Derived.Test.YtiecneefommdlaaVE
namespace Go.Proofs.Ytiecneefommdlaa
set_option maxRecDepth 100000
open Go.RowKit Lg Nl Go.Maps Wf
set_option linter.unusedVariables false
set_option linter.unusedSimpArgs false

end Go.Proofs.Ytiecneefommdlaa
