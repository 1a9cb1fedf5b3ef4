/- Layer 1: shifts. -/
import Derived.Test.YtpdcmehjndhcjaaWF
namespace Go.Proofs.Ytpdcmehjndhcjaa
open Go.RowKit Lg
set_option linter.unusedVariables false

end Go.Proofs.Ytpdcmehjndhcjaa
