/-
  No cell of these rows narrows 'for every input' (looked for: loops, veiled, ifaces, maps, wideKeys, modest, calm, conditions, laid).
  DERIVED. THE GIVEN ROWS OF THIS SEAT. 5 by the template 'for every input the law returns true; each argument reads behind the call as it read before'; 0 by the template 'total and deterministic' (their statements: YtkgonnnpoldcoaaTotals.lean).
  GIVEN WITH THE SEED: the statements are not yours to turn. If you find one false, say at which input.
  Laid BY PROGRAM, IN A SANDBOX (cutbox-rows.mjs): the forced cells as the released guide's own fill.sh prints them over the translation cb4eb7ed05410fdf… (all of the seat's roots in one cut). By AI agents, Wed Nov 11 2026. No macro, syntax, notation, axiom, sorry.
-/
import Derived.Test.YtkgonnnpoldcoaaChecked
import GoSem.Claim
import GoSem.ClaimJoined
import GoSem.ClaimMapViews
import Derived.JoinedTies
import Derived.KernelRfl
namespace Go.Proofs.Ytkgonnnpoldcoaa
/- THE CELL 'sum', in the pinned program and in every row, IS THE sha256 OF THE DUMP (.gsa) THAT YtkgonnnpoldcoaaProg.lean LOADS. Nothing in Lean hashes anything: it is a label: what it is worth is what the hold of that sum in a sandbox is worth. -/
noncomputable def Try.pinned : Pinned := { name := "ytkgonnnpoldcoaa", sum := "cb4eb7ed05410fdfbdfc25be60dca34f0220a936619150ef8b672936c0e12f87", checked := Try.checked }
namespace Rows
def none {H : Type} : Left H := { results := [], args := [] }

/-- 'silkwormlaw13.PartRuns': WHATEVER THE INPUT: true; the input reads as it did. -/
def partRunsSpec : ChangeSpec := { name := "partRuns", fn := fun _ => fun
  | [d1, d2] => { results := [.lit (.bool true)], args := [d1, d2] }
  | _ => none }
def partRunsRow : OpenClaim := { program := "ytkgonnnpoldcoaa", sum := "cb4eb7ed05410fdfbdfc25be60dca34f0220a936619150ef8b672936c0e12f87", func := "silkworm/silkwormlaw13.PartRuns", spec := "partRuns", unfollowed := true, recurses := true, apart := false }
def PartRunsSaid : Prop := partRunsRow.holds Try.pinned (OpenSpec.ofChange partRunsSpec)

/-- ITS FALSE NEIGHBOUR: 'it returns false'. Refute it at one input. -/
def partRunsWrong : ChangeSpec := { name := "partRuns", fn := fun _ => fun
  | [d1, d2] => { results := [.lit (.bool false)], args := [d1, d2] }
  | _ => none }
def PartRunsWrongFalsely : Prop := partRunsRow.holds Try.pinned (OpenSpec.ofChange partRunsWrong)

/-- 'silkwormlaw13.PartChecks': WHATEVER THE INPUT: true; the input reads as it did. -/
def partChecksSpec : ChangeSpec := { name := "partChecks", fn := fun _ => fun
  | [d1, d2] => { results := [.lit (.bool true)], args := [d1, d2] }
  | _ => none }
def partChecksRow : OpenClaim := { program := "ytkgonnnpoldcoaa", sum := "cb4eb7ed05410fdfbdfc25be60dca34f0220a936619150ef8b672936c0e12f87", func := "silkworm/silkwormlaw13.PartChecks", spec := "partChecks", unfollowed := true, recurses := true, apart := false }
def PartChecksSaid : Prop := partChecksRow.holds Try.pinned (OpenSpec.ofChange partChecksSpec)

/-- ITS FALSE NEIGHBOUR: 'it returns false'. Refute it at one input. -/
def partChecksWrong : ChangeSpec := { name := "partChecks", fn := fun _ => fun
  | [d1, d2] => { results := [.lit (.bool false)], args := [d1, d2] }
  | _ => none }
def PartChecksWrongFalsely : Prop := partChecksRow.holds Try.pinned (OpenSpec.ofChange partChecksWrong)

/-- 'silkwormlaw13.PartTurns': WHATEVER THE INPUT: true; the input reads as it did. -/
def partTurnsSpec : ChangeSpec := { name := "partTurns", fn := fun _ => fun
  | [d1, d2, d3] => { results := [.lit (.bool true)], args := [d1, d2, d3] }
  | _ => none }
def partTurnsRow : OpenClaim := { program := "ytkgonnnpoldcoaa", sum := "cb4eb7ed05410fdfbdfc25be60dca34f0220a936619150ef8b672936c0e12f87", func := "silkworm/silkwormlaw13.PartTurns", spec := "partTurns", unfollowed := true, recurses := true, apart := false }
def PartTurnsSaid : Prop := partTurnsRow.holds Try.pinned (OpenSpec.ofChange partTurnsSpec)

/-- ITS FALSE NEIGHBOUR: 'it returns false'. Refute it at one input. -/
def partTurnsWrong : ChangeSpec := { name := "partTurns", fn := fun _ => fun
  | [d1, d2, d3] => { results := [.lit (.bool false)], args := [d1, d2, d3] }
  | _ => none }
def PartTurnsWrongFalsely : Prop := partTurnsRow.holds Try.pinned (OpenSpec.ofChange partTurnsWrong)

/-- 'silkwormlaw13.PartLoops': WHATEVER THE INPUT: true; the input reads as it did. -/
def partLoopsSpec : ChangeSpec := { name := "partLoops", fn := fun _ => fun
  | [d1, d2] => { results := [.lit (.bool true)], args := [d1, d2] }
  | _ => none }
def partLoopsRow : OpenClaim := { program := "ytkgonnnpoldcoaa", sum := "cb4eb7ed05410fdfbdfc25be60dca34f0220a936619150ef8b672936c0e12f87", func := "silkworm/silkwormlaw13.PartLoops", spec := "partLoops", unfollowed := true, recurses := true, apart := false }
def PartLoopsSaid : Prop := partLoopsRow.holds Try.pinned (OpenSpec.ofChange partLoopsSpec)

/-- ITS FALSE NEIGHBOUR: 'it returns false'. Refute it at one input. -/
def partLoopsWrong : ChangeSpec := { name := "partLoops", fn := fun _ => fun
  | [d1, d2] => { results := [.lit (.bool false)], args := [d1, d2] }
  | _ => none }
def PartLoopsWrongFalsely : Prop := partLoopsRow.holds Try.pinned (OpenSpec.ofChange partLoopsWrong)

/-- 'silkwormlaw13.PartChains': WHATEVER THE INPUT: true; the input reads as it did. -/
def partChainsSpec : ChangeSpec := { name := "partChains", fn := fun _ => fun
  | [d1, d2, d3] => { results := [.lit (.bool true)], args := [d1, d2, d3] }
  | _ => none }
def partChainsRow : OpenClaim := { program := "ytkgonnnpoldcoaa", sum := "cb4eb7ed05410fdfbdfc25be60dca34f0220a936619150ef8b672936c0e12f87", func := "silkworm/silkwormlaw13.PartChains", spec := "partChains", unfollowed := true, recurses := true, apart := false }
def PartChainsSaid : Prop := partChainsRow.holds Try.pinned (OpenSpec.ofChange partChainsSpec)

/-- ITS FALSE NEIGHBOUR: 'it returns false'. Refute it at one input. -/
def partChainsWrong : ChangeSpec := { name := "partChains", fn := fun _ => fun
  | [d1, d2, d3] => { results := [.lit (.bool false)], args := [d1, d2, d3] }
  | _ => none }
def PartChainsWrongFalsely : Prop := partChainsRow.holds Try.pinned (OpenSpec.ofChange partChainsWrong)

/- THE SECOND FORM. 'bulk': how many values and letters a reading holds, each counted each time it is reached (what is shared counts as often as it is met; a slice's spare places count too). A statement '..UptoSaid' is the law's where the arguments, and the package variables that the reading takes, are together of bulk at most 1048576: NARROWER than '..Said'. Prove '..Said' where nothing that the law and all that it calls make is longer than what came in: it says more and counts as full. Else prove '..UptoSaid'. A law counts once. -/
mutual
def uptoBulk {H : Type} : DataW H → Nat
  | .lit (.string bytes) => bytes.length + 1
  | .lit _ => 1
  | .nil => 1
  | .ptr d => uptoBulk d + 1
  | .slice elems spare => uptoBulkAll elems + uptoBulkAll spare + 1
  | .agg parts => uptoBulkAll parts + 1
  | .iface _ d => uptoBulk d + 1
  | .map entries => uptoBulkEntries entries + 1
  | .held _ => 1
def uptoBulkAll {H : Type} : List (DataW H) → Nat
  | [] => 0
  | d :: r => uptoBulk d + uptoBulkAll r
def uptoBulkEntries {H : Type} : List (Lit × DataW H) → Nat
  | [] => 0
  | x :: r => uptoBulkEntry x + uptoBulkEntries r
def uptoBulkEntry {H : Type} : Lit × DataW H → Nat
  | (.string bytes, d) => bytes.length + uptoBulk d + 1
  | (_, d) => uptoBulk d + 1
 end
def uptoSmall : (H : Type) → List (DataW H) → Bool := fun _ ds => decide (uptoBulkAll ds ≤ 1048576)
def OpenSpec.upto (s : _root_.Go.ChangeSpec) : _root_.Go.OpenSpec := { _root_.Go.OpenSpec.ofChange s with cond := some uptoSmall }

/-- 'silkwormlaw13.PartRuns', WHERE WHAT IT READS IS OF BULK AT MOST 1048576: true; the input reads as it did. -/
def partRunsUptoRow : OpenClaim := { program := "ytkgonnnpoldcoaa", sum := "cb4eb7ed05410fdfbdfc25be60dca34f0220a936619150ef8b672936c0e12f87", func := "silkworm/silkwormlaw13.PartRuns", spec := "partRuns", unfollowed := true, recurses := true, apart := false, narrowed := true }
def PartRunsUptoSaid : Prop := partRunsUptoRow.holds Try.pinned (OpenSpec.upto partRunsSpec)

/-- 'silkwormlaw13.PartChecks', WHERE WHAT IT READS IS OF BULK AT MOST 1048576: true; the input reads as it did. -/
def partChecksUptoRow : OpenClaim := { program := "ytkgonnnpoldcoaa", sum := "cb4eb7ed05410fdfbdfc25be60dca34f0220a936619150ef8b672936c0e12f87", func := "silkworm/silkwormlaw13.PartChecks", spec := "partChecks", unfollowed := true, recurses := true, apart := false, narrowed := true }
def PartChecksUptoSaid : Prop := partChecksUptoRow.holds Try.pinned (OpenSpec.upto partChecksSpec)

/-- 'silkwormlaw13.PartTurns', WHERE WHAT IT READS IS OF BULK AT MOST 1048576: true; the input reads as it did. -/
def partTurnsUptoRow : OpenClaim := { program := "ytkgonnnpoldcoaa", sum := "cb4eb7ed05410fdfbdfc25be60dca34f0220a936619150ef8b672936c0e12f87", func := "silkworm/silkwormlaw13.PartTurns", spec := "partTurns", unfollowed := true, recurses := true, apart := false, narrowed := true }
def PartTurnsUptoSaid : Prop := partTurnsUptoRow.holds Try.pinned (OpenSpec.upto partTurnsSpec)

/-- 'silkwormlaw13.PartLoops', WHERE WHAT IT READS IS OF BULK AT MOST 1048576: true; the input reads as it did. -/
def partLoopsUptoRow : OpenClaim := { program := "ytkgonnnpoldcoaa", sum := "cb4eb7ed05410fdfbdfc25be60dca34f0220a936619150ef8b672936c0e12f87", func := "silkworm/silkwormlaw13.PartLoops", spec := "partLoops", unfollowed := true, recurses := true, apart := false, narrowed := true }
def PartLoopsUptoSaid : Prop := partLoopsUptoRow.holds Try.pinned (OpenSpec.upto partLoopsSpec)

/-- 'silkwormlaw13.PartChains', WHERE WHAT IT READS IS OF BULK AT MOST 1048576: true; the input reads as it did. -/
def partChainsUptoRow : OpenClaim := { program := "ytkgonnnpoldcoaa", sum := "cb4eb7ed05410fdfbdfc25be60dca34f0220a936619150ef8b672936c0e12f87", func := "silkworm/silkwormlaw13.PartChains", spec := "partChains", unfollowed := true, recurses := true, apart := false, narrowed := true }
def PartChainsUptoSaid : Prop := partChainsUptoRow.holds Try.pinned (OpenSpec.upto partChainsSpec)

end Rows
end Go.Proofs.Ytkgonnnpoldcoaa
