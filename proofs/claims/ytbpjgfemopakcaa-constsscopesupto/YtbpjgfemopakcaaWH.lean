/- Layer 1: shifts. -/
import Derived.Test.YtbpjgfemopakcaaWF
namespace Go.Proofs.Ytbpjgfemopakcaa
open Go.RowKit Lg
set_option linter.unusedVariables false

end Go.Proofs.Ytbpjgfemopakcaa
