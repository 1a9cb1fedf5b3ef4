/- Layer 1: what is called from outside, more; and that the program is awake. -/
import Derived.Test.YtbpjgfemopakcaaWJ
namespace Go.Proofs.Ytbpjgfemopakcaa
open Go.RowKit Lg
set_option linter.unusedVariables false

def chkE (a : List UInt8) : Int := if vec a then 0 else 10
def fitA (a : List UInt8) (n : Int) : List UInt8 := if n < 1 ∨ 256 < n then [] else if vec a then fit a n.toNat else []
def fitE (a : List UInt8) (n : Int) : Int := if n < 1 ∨ 256 < n then 1 else if vec a then 0 else 10
end Go.Proofs.Ytbpjgfemopakcaa
