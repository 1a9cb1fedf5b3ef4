/- Layer 1: a table, bit by bit. -/
import Derived.Test.YtpdcmehjndhcjaaWC
import Derived.Test.YtpdcmehjndhcjaaGM
namespace Go.Proofs.Ytpdcmehjndhcjaa
open Go.RowKit Lg
set_option linter.unusedVariables false

end Go.Proofs.Ytpdcmehjndhcjaa
