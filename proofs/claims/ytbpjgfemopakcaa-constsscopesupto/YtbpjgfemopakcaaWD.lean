/- Layer 1: a table, bit by bit. -/
import Derived.Test.YtbpjgfemopakcaaWC
import Derived.Test.YtbpjgfemopakcaaGM
namespace Go.Proofs.Ytbpjgfemopakcaa
open Go.RowKit Lg
set_option linter.unusedVariables false

end Go.Proofs.Ytbpjgfemopakcaa
