/- Layer 1: binary and unary operators. -/
import Derived.Test.YtpdcmehjndhcjaaWG
import Derived.Test.YtpdcmehjndhcjaaWH
namespace Go.Proofs.Ytpdcmehjndhcjaa
open Go.RowKit Lg
set_option linter.unusedVariables false

theorem ne_b {a b : Int} (h : ¬ a = b) : (a == b) = false := by simpa using h

theorem len_one (c : UInt8) : (S [c]).size = 1 := by rw [size_S]; rfl
theorem turn_one (c : UInt8) : turnL [c] = [bnot c] := rfl

end Go.Proofs.Ytpdcmehjndhcjaa
