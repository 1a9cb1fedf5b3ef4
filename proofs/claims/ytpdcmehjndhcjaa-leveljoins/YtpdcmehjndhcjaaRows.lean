/-
  No cell of these rows narrows 'for every input' (looked for: loops, veiled, ifaces, maps, wideKeys, modest, calm, conditions, laid).
  DERIVED. THE GIVEN ROWS OF THIS SEAT. 4 by the template 'for every input the law returns true; each argument reads behind the call as it read before'; 0 by the template 'total and deterministic' (their statements: YtpdcmehjndhcjaaTotals.lean).
  GIVEN WITH THE SEED: the statements are not yours to turn. If you find one false, say at which input.
  Laid BY PROGRAM, IN A SANDBOX (cutbox-rows.mjs): the forced cells as the released guide's own fill.sh prints them over the translation cb2564d2af3b6640… (all of the seat's roots in one cut). By AI agents, Wed Nov 11 2026. No macro, syntax, notation, axiom, sorry.
-/
import Derived.Test.YtpdcmehjndhcjaaChecked
import GoSem.Claim
import GoSem.ClaimJoined
import GoSem.ClaimMapViews
import Derived.JoinedTies
import Derived.KernelRfl
namespace Go.Proofs.Ytpdcmehjndhcjaa
/- THE CELL 'sum', in the pinned program and in every row, IS THE sha256 OF THE DUMP (.gsa) THAT YtpdcmehjndhcjaaProg.lean LOADS. Nothing in Lean hashes anything: it is a label: what it is worth is what the hold of that sum in a sandbox is worth. -/
noncomputable def Try.pinned : Pinned := { name := "ytpdcmehjndhcjaa", sum := "cb2564d2af3b66409f286cb375b59ed87cd9f97ccc5666d327c09f2232659e9b", checked := Try.checked }
namespace Rows
def none {H : Type} : Left H := { results := [], args := [] }

/-- 'silkwormlaw11.LevelRuns': WHATEVER THE INPUT: true; the input reads as it did. -/
def levelRunsSpec : ChangeSpec := { name := "levelRuns", fn := fun _ => fun
  | [d] => { results := [.lit (.bool true)], args := [d] }
  | _ => none }
def levelRunsRow : OpenClaim := { program := "ytpdcmehjndhcjaa", sum := "cb2564d2af3b66409f286cb375b59ed87cd9f97ccc5666d327c09f2232659e9b", func := "silkworm/silkwormlaw11.LevelRuns", spec := "levelRuns", apart := false }
def LevelRunsSaid : Prop := levelRunsRow.holds Try.pinned (OpenSpec.ofChange levelRunsSpec)

/-- ITS FALSE NEIGHBOUR: 'it returns false'. Refute it at one input. -/
def levelRunsWrong : ChangeSpec := { name := "levelRuns", fn := fun _ => fun
  | [d] => { results := [.lit (.bool false)], args := [d] }
  | _ => none }
def LevelRunsWrongFalsely : Prop := levelRunsRow.holds Try.pinned (OpenSpec.ofChange levelRunsWrong)

/-- 'silkwormlaw11.LevelOrders': WHATEVER THE INPUT: true; the input reads as it did. -/
def levelOrdersSpec : ChangeSpec := { name := "levelOrders", fn := fun _ => fun
  | [d] => { results := [.lit (.bool true)], args := [d] }
  | _ => none }
def levelOrdersRow : OpenClaim := { program := "ytpdcmehjndhcjaa", sum := "cb2564d2af3b66409f286cb375b59ed87cd9f97ccc5666d327c09f2232659e9b", func := "silkworm/silkwormlaw11.LevelOrders", spec := "levelOrders", apart := false }
def LevelOrdersSaid : Prop := levelOrdersRow.holds Try.pinned (OpenSpec.ofChange levelOrdersSpec)

/-- ITS FALSE NEIGHBOUR: 'it returns false'. Refute it at one input. -/
def levelOrdersWrong : ChangeSpec := { name := "levelOrders", fn := fun _ => fun
  | [d] => { results := [.lit (.bool false)], args := [d] }
  | _ => none }
def LevelOrdersWrongFalsely : Prop := levelOrdersRow.holds Try.pinned (OpenSpec.ofChange levelOrdersWrong)

/-- 'silkwormlaw11.LevelRings': WHATEVER THE INPUT: true; the input reads as it did. -/
def levelRingsSpec : ChangeSpec := { name := "levelRings", fn := fun _ => fun
  | [d1, d2] => { results := [.lit (.bool true)], args := [d1, d2] }
  | _ => none }
def levelRingsRow : OpenClaim := { program := "ytpdcmehjndhcjaa", sum := "cb2564d2af3b66409f286cb375b59ed87cd9f97ccc5666d327c09f2232659e9b", func := "silkworm/silkwormlaw11.LevelRings", spec := "levelRings", apart := false }
def LevelRingsSaid : Prop := levelRingsRow.holds Try.pinned (OpenSpec.ofChange levelRingsSpec)

/-- ITS FALSE NEIGHBOUR: 'it returns false'. Refute it at one input. -/
def levelRingsWrong : ChangeSpec := { name := "levelRings", fn := fun _ => fun
  | [d1, d2] => { results := [.lit (.bool false)], args := [d1, d2] }
  | _ => none }
def LevelRingsWrongFalsely : Prop := levelRingsRow.holds Try.pinned (OpenSpec.ofChange levelRingsWrong)

/-- 'silkwormlaw11.LevelJoins': WHATEVER THE INPUT: true; the input reads as it did. -/
def levelJoinsSpec : ChangeSpec := { name := "levelJoins", fn := fun _ => fun
  | [d1, d2] => { results := [.lit (.bool true)], args := [d1, d2] }
  | _ => none }
def levelJoinsRow : OpenClaim := { program := "ytpdcmehjndhcjaa", sum := "cb2564d2af3b66409f286cb375b59ed87cd9f97ccc5666d327c09f2232659e9b", func := "silkworm/silkwormlaw11.LevelJoins", spec := "levelJoins", apart := false }
def LevelJoinsSaid : Prop := levelJoinsRow.holds Try.pinned (OpenSpec.ofChange levelJoinsSpec)

/-- ITS FALSE NEIGHBOUR: 'it returns false'. Refute it at one input. -/
def levelJoinsWrong : ChangeSpec := { name := "levelJoins", fn := fun _ => fun
  | [d1, d2] => { results := [.lit (.bool false)], args := [d1, d2] }
  | _ => none }
def LevelJoinsWrongFalsely : Prop := levelJoinsRow.holds Try.pinned (OpenSpec.ofChange levelJoinsWrong)

/- THE SECOND FORM. 'bulk': how many values and letters a reading holds, each counted each time it is reached (what is shared counts as often as it is met; a slice's spare places count too). A statement '..UptoSaid' is the law's where the arguments, and the package variables that the reading takes, are together of bulk at most 1048576: NARROWER than '..Said'. Prove '..Said' where nothing that the law and all that it calls make is longer than what came in: it says more and counts as full. Else prove '..UptoSaid'. A law counts once. -/
mutual
def uptoBulk {H : Type} : DataW H → Nat
  | .lit (.string bytes) => bytes.length + 1
  | .lit _ => 1
  | .nil => 1
  | .ptr d => uptoBulk d + 1
  | .slice elems spare => uptoBulkAll elems + uptoBulkAll spare + 1
  | .agg parts => uptoBulkAll parts + 1
  | .iface _ d => uptoBulk d + 1
  | .map entries => uptoBulkEntries entries + 1
  | .held _ => 1
def uptoBulkAll {H : Type} : List (DataW H) → Nat
  | [] => 0
  | d :: r => uptoBulk d + uptoBulkAll r
def uptoBulkEntries {H : Type} : List (Lit × DataW H) → Nat
  | [] => 0
  | x :: r => uptoBulkEntry x + uptoBulkEntries r
def uptoBulkEntry {H : Type} : Lit × DataW H → Nat
  | (.string bytes, d) => bytes.length + uptoBulk d + 1
  | (_, d) => uptoBulk d + 1
 end
def uptoSmall : (H : Type) → List (DataW H) → Bool := fun _ ds => decide (uptoBulkAll ds ≤ 1048576)
def OpenSpec.upto (s : _root_.Go.ChangeSpec) : _root_.Go.OpenSpec := { _root_.Go.OpenSpec.ofChange s with cond := some uptoSmall }

/-- 'silkwormlaw11.LevelRuns', WHERE WHAT IT READS IS OF BULK AT MOST 1048576: true; the input reads as it did. -/
def levelRunsUptoRow : OpenClaim := { program := "ytpdcmehjndhcjaa", sum := "cb2564d2af3b66409f286cb375b59ed87cd9f97ccc5666d327c09f2232659e9b", func := "silkworm/silkwormlaw11.LevelRuns", spec := "levelRuns", apart := false, narrowed := true }
def LevelRunsUptoSaid : Prop := levelRunsUptoRow.holds Try.pinned (OpenSpec.upto levelRunsSpec)

/-- 'silkwormlaw11.LevelOrders', WHERE WHAT IT READS IS OF BULK AT MOST 1048576: true; the input reads as it did. -/
def levelOrdersUptoRow : OpenClaim := { program := "ytpdcmehjndhcjaa", sum := "cb2564d2af3b66409f286cb375b59ed87cd9f97ccc5666d327c09f2232659e9b", func := "silkworm/silkwormlaw11.LevelOrders", spec := "levelOrders", apart := false, narrowed := true }
def LevelOrdersUptoSaid : Prop := levelOrdersUptoRow.holds Try.pinned (OpenSpec.upto levelOrdersSpec)

/-- 'silkwormlaw11.LevelRings', WHERE WHAT IT READS IS OF BULK AT MOST 1048576: true; the input reads as it did. -/
def levelRingsUptoRow : OpenClaim := { program := "ytpdcmehjndhcjaa", sum := "cb2564d2af3b66409f286cb375b59ed87cd9f97ccc5666d327c09f2232659e9b", func := "silkworm/silkwormlaw11.LevelRings", spec := "levelRings", apart := false, narrowed := true }
def LevelRingsUptoSaid : Prop := levelRingsUptoRow.holds Try.pinned (OpenSpec.upto levelRingsSpec)

/-- 'silkwormlaw11.LevelJoins', WHERE WHAT IT READS IS OF BULK AT MOST 1048576: true; the input reads as it did. -/
def levelJoinsUptoRow : OpenClaim := { program := "ytpdcmehjndhcjaa", sum := "cb2564d2af3b66409f286cb375b59ed87cd9f97ccc5666d327c09f2232659e9b", func := "silkworm/silkwormlaw11.LevelJoins", spec := "levelJoins", apart := false, narrowed := true }
def LevelJoinsUptoSaid : Prop := levelJoinsUptoRow.holds Try.pinned (OpenSpec.upto levelJoinsSpec)

end Rows
end Go.Proofs.Ytpdcmehjndhcjaa
