/- Layer 3 of the program: giving up; which words are directives. -/
import Derived.Test.YthdhmlojihpfkaaGreatGX
import Derived.Test.YthdhmlojihpfkaaGreatGM
import Derived.Maps.OwnSet
import Derived.Maps.AppendAt
import Derived.Recover
import Derived.Defers
namespace Go.Proofs.YthdhmlojihpfkaaGreat
open Go.RowKit Lg
set_option linter.unusedVariables false
set_option linter.unusedSimpArgs false

/-- a run is given up -/
def pnc (p c : Int) : List PanicEntry := [{ v := .iface 36 (.agg #[.int .i64 p, .int .i64 c]), recovered := false }]
theorem splB_iff (x : ByteArray) : splB (L x) = (x.toList == [105, 102, 100, 101, 102] || x.toList == [105, 102, 110, 100, 101, 102] || x.toList == [101, 108, 115, 101] || x.toList == [101, 110, 100, 105, 102]) := by rw [toL]; rfl
theorem dirB_iff (x : ByteArray) : dirB (L x) = (splB (L x) || x.toList == [100, 101, 102, 105, 110, 101] || x.toList == [117, 110, 100, 101, 102]) := by rw [toL]; rfl
end Go.Proofs.YthdhmlojihpfkaaGreat
