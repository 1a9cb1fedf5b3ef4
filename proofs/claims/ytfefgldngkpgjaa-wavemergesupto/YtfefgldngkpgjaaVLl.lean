/- Layer 18: what the program's Check, Cut, At and Begins tell, together. -/
import Derived.Test.YtfefgldngkpgjaaVLk
namespace Go.Proofs.Ytfefgldngkpgjaa
set_option maxRecDepth 100000
theorem pcV : PC := ⟨check_c, cut_c, at_cp, begins_cp⟩
end Go.Proofs.Ytfefgldngkpgjaa
