/-
  No cell of these rows narrows 'for every input' (looked for: loops, veiled, ifaces, maps, wideKeys, modest, calm, conditions, laid).
  DERIVED. THE GIVEN ROWS OF THIS SEAT. 13 by the template 'for every input the law returns true; each argument reads behind the call as it read before'; 0 by the template 'total and deterministic' (their statements: YtdacoincdkighaaTotals.lean).
  GIVEN WITH THE SEED: the statements are not yours to turn. If you find one false, say at which input.
  Laid BY PROGRAM, IN A SANDBOX (cutbox-rows.mjs): the forced cells as the released guide's own fill.sh prints them over the translation 8fb56fed7f1cf2d9… (all of the seat's roots in one cut). By AI agents, Wed Nov 11 2026. No macro, syntax, notation, axiom, sorry.
-/
import Derived.Test.YtdacoincdkighaaChecked
import GoSem.Claim
import GoSem.ClaimJoined
import GoSem.ClaimMapViews
import Derived.JoinedTies
import Derived.KernelRfl
namespace Go.Proofs.Ytdacoincdkighaa
/- THE CELL 'sum', in the pinned program and in every row, IS THE sha256 OF THE DUMP (.gsa) THAT YtdacoincdkighaaProg.lean LOADS. Nothing in Lean hashes anything: it is a label: what it is worth is what the hold of that sum in a sandbox is worth. -/
noncomputable def Try.pinned : Pinned := { name := "ytdacoincdkighaa", sum := "8fb56fed7f1cf2d9a99e0e092781f3f620374f3db37f878fbc8ccf397af591fd", checked := Try.checked }
namespace Rows
def none {H : Type} : Left H := { results := [], args := [] }

/-- 'silkwormlaw01.LogicBinary': WHATEVER THE INPUT: true; the input reads as it did. -/
def logicBinarySpec : ChangeSpec := { name := "logicBinary", fn := fun _ => fun
  | [d1, d2, d3] => { results := [.lit (.bool true)], args := [d1, d2, d3] }
  | _ => none }
def logicBinaryRow : OpenClaim := { program := "ytdacoincdkighaa", sum := "8fb56fed7f1cf2d9a99e0e092781f3f620374f3db37f878fbc8ccf397af591fd", func := "silkworm/silkwormlaw01.LogicBinary", spec := "logicBinary", inPlace := ["internal/abi.NoEscape", "internal/bytealg.MakeNoZero"], apart := false }
def LogicBinarySaid : Prop := logicBinaryRow.holds Try.pinned (OpenSpec.ofChange logicBinarySpec)

/-- ITS FALSE NEIGHBOUR: 'it returns false'. Refute it at one input. -/
def logicBinaryWrong : ChangeSpec := { name := "logicBinary", fn := fun _ => fun
  | [d1, d2, d3] => { results := [.lit (.bool false)], args := [d1, d2, d3] }
  | _ => none }
def LogicBinaryWrongFalsely : Prop := logicBinaryRow.holds Try.pinned (OpenSpec.ofChange logicBinaryWrong)

/-- 'silkwormlaw01.LogicUnary': WHATEVER THE INPUT: true; the input reads as it did. -/
def logicUnarySpec : ChangeSpec := { name := "logicUnary", fn := fun _ => fun
  | [d1, d2] => { results := [.lit (.bool true)], args := [d1, d2] }
  | _ => none }
def logicUnaryRow : OpenClaim := { program := "ytdacoincdkighaa", sum := "8fb56fed7f1cf2d9a99e0e092781f3f620374f3db37f878fbc8ccf397af591fd", func := "silkworm/silkwormlaw01.LogicUnary", spec := "logicUnary", inPlace := ["internal/abi.NoEscape", "internal/bytealg.MakeNoZero"], apart := false }
def LogicUnarySaid : Prop := logicUnaryRow.holds Try.pinned (OpenSpec.ofChange logicUnarySpec)

/-- ITS FALSE NEIGHBOUR: 'it returns false'. Refute it at one input. -/
def logicUnaryWrong : ChangeSpec := { name := "logicUnary", fn := fun _ => fun
  | [d1, d2] => { results := [.lit (.bool false)], args := [d1, d2] }
  | _ => none }
def LogicUnaryWrongFalsely : Prop := logicUnaryRow.holds Try.pinned (OpenSpec.ofChange logicUnaryWrong)

/-- 'silkwormlaw01.LogicCond': WHATEVER THE INPUT: true; the input reads as it did. -/
def logicCondSpec : ChangeSpec := { name := "logicCond", fn := fun _ => fun
  | [d1, d2, d3] => { results := [.lit (.bool true)], args := [d1, d2, d3] }
  | _ => none }
def logicCondRow : OpenClaim := { program := "ytdacoincdkighaa", sum := "8fb56fed7f1cf2d9a99e0e092781f3f620374f3db37f878fbc8ccf397af591fd", func := "silkworm/silkwormlaw01.LogicCond", spec := "logicCond", inPlace := ["internal/abi.NoEscape", "internal/bytealg.MakeNoZero"], apart := false }
def LogicCondSaid : Prop := logicCondRow.holds Try.pinned (OpenSpec.ofChange logicCondSpec)

/-- ITS FALSE NEIGHBOUR: 'it returns false'. Refute it at one input. -/
def logicCondWrong : ChangeSpec := { name := "logicCond", fn := fun _ => fun
  | [d1, d2, d3] => { results := [.lit (.bool false)], args := [d1, d2, d3] }
  | _ => none }
def LogicCondWrongFalsely : Prop := logicCondRow.holds Try.pinned (OpenSpec.ofChange logicCondWrong)

/-- 'silkwormlaw01.LogicParts': WHATEVER THE INPUT: true; the input reads as it did. -/
def logicPartsSpec : ChangeSpec := { name := "logicParts", fn := fun _ => fun
  | [d1, d2, d3] => { results := [.lit (.bool true)], args := [d1, d2, d3] }
  | _ => none }
def logicPartsRow : OpenClaim := { program := "ytdacoincdkighaa", sum := "8fb56fed7f1cf2d9a99e0e092781f3f620374f3db37f878fbc8ccf397af591fd", func := "silkworm/silkwormlaw01.LogicParts", spec := "logicParts", inPlace := ["internal/abi.NoEscape", "internal/bytealg.MakeNoZero"], apart := false }
def LogicPartsSaid : Prop := logicPartsRow.holds Try.pinned (OpenSpec.ofChange logicPartsSpec)

/-- ITS FALSE NEIGHBOUR: 'it returns false'. Refute it at one input. -/
def logicPartsWrong : ChangeSpec := { name := "logicParts", fn := fun _ => fun
  | [d1, d2, d3] => { results := [.lit (.bool false)], args := [d1, d2, d3] }
  | _ => none }
def LogicPartsWrongFalsely : Prop := logicPartsRow.holds Try.pinned (OpenSpec.ofChange logicPartsWrong)

/-- 'silkwormlaw01.LogicNumbers': WHATEVER THE INPUT: true; the input reads as it did. -/
def logicNumbersSpec : ChangeSpec := { name := "logicNumbers", fn := fun _ => fun
  | [d1, d2] => { results := [.lit (.bool true)], args := [d1, d2] }
  | _ => none }
def logicNumbersRow : OpenClaim := { program := "ytdacoincdkighaa", sum := "8fb56fed7f1cf2d9a99e0e092781f3f620374f3db37f878fbc8ccf397af591fd", func := "silkworm/silkwormlaw01.LogicNumbers", spec := "logicNumbers", inPlace := ["internal/abi.NoEscape", "internal/bytealg.MakeNoZero"], apart := false }
def LogicNumbersSaid : Prop := logicNumbersRow.holds Try.pinned (OpenSpec.ofChange logicNumbersSpec)

/-- ITS FALSE NEIGHBOUR: 'it returns false'. Refute it at one input. -/
def logicNumbersWrong : ChangeSpec := { name := "logicNumbers", fn := fun _ => fun
  | [d1, d2] => { results := [.lit (.bool false)], args := [d1, d2] }
  | _ => none }
def LogicNumbersWrongFalsely : Prop := logicNumbersRow.holds Try.pinned (OpenSpec.ofChange logicNumbersWrong)

/-- 'silkwormlaw01.LogicSums': WHATEVER THE INPUT: true; the input reads as it did. -/
def logicSumsSpec : ChangeSpec := { name := "logicSums", fn := fun _ => fun
  | [d1, d2, d3] => { results := [.lit (.bool true)], args := [d1, d2, d3] }
  | _ => none }
def logicSumsRow : OpenClaim := { program := "ytdacoincdkighaa", sum := "8fb56fed7f1cf2d9a99e0e092781f3f620374f3db37f878fbc8ccf397af591fd", func := "silkworm/silkwormlaw01.LogicSums", spec := "logicSums", inPlace := ["internal/abi.NoEscape", "internal/bytealg.MakeNoZero"], apart := false }
def LogicSumsSaid : Prop := logicSumsRow.holds Try.pinned (OpenSpec.ofChange logicSumsSpec)

/-- ITS FALSE NEIGHBOUR: 'it returns false'. Refute it at one input. -/
def logicSumsWrong : ChangeSpec := { name := "logicSums", fn := fun _ => fun
  | [d1, d2, d3] => { results := [.lit (.bool false)], args := [d1, d2, d3] }
  | _ => none }
def LogicSumsWrongFalsely : Prop := logicSumsRow.holds Try.pinned (OpenSpec.ofChange logicSumsWrong)

/-- 'silkwormlaw01.LogicLess': WHATEVER THE INPUT: true; the input reads as it did. -/
def logicLessSpec : ChangeSpec := { name := "logicLess", fn := fun _ => fun
  | [d1, d2, d3] => { results := [.lit (.bool true)], args := [d1, d2, d3] }
  | _ => none }
def logicLessRow : OpenClaim := { program := "ytdacoincdkighaa", sum := "8fb56fed7f1cf2d9a99e0e092781f3f620374f3db37f878fbc8ccf397af591fd", func := "silkworm/silkwormlaw01.LogicLess", spec := "logicLess", inPlace := ["internal/abi.NoEscape", "internal/bytealg.MakeNoZero"], apart := false }
def LogicLessSaid : Prop := logicLessRow.holds Try.pinned (OpenSpec.ofChange logicLessSpec)

/-- ITS FALSE NEIGHBOUR: 'it returns false'. Refute it at one input. -/
def logicLessWrong : ChangeSpec := { name := "logicLess", fn := fun _ => fun
  | [d1, d2, d3] => { results := [.lit (.bool false)], args := [d1, d2, d3] }
  | _ => none }
def LogicLessWrongFalsely : Prop := logicLessRow.holds Try.pinned (OpenSpec.ofChange logicLessWrong)

/-- 'silkwormlaw01.LogicRises': WHATEVER THE INPUT: true; the input reads as it did. -/
def logicRisesSpec : ChangeSpec := { name := "logicRises", fn := fun _ => fun
  | [d1, d2] => { results := [.lit (.bool true)], args := [d1, d2] }
  | _ => none }
def logicRisesRow : OpenClaim := { program := "ytdacoincdkighaa", sum := "8fb56fed7f1cf2d9a99e0e092781f3f620374f3db37f878fbc8ccf397af591fd", func := "silkworm/silkwormlaw01.LogicRises", spec := "logicRises", inPlace := ["internal/abi.NoEscape", "internal/bytealg.MakeNoZero"], apart := false }
def LogicRisesSaid : Prop := logicRisesRow.holds Try.pinned (OpenSpec.ofChange logicRisesSpec)

/-- ITS FALSE NEIGHBOUR: 'it returns false'. Refute it at one input. -/
def logicRisesWrong : ChangeSpec := { name := "logicRises", fn := fun _ => fun
  | [d1, d2] => { results := [.lit (.bool false)], args := [d1, d2] }
  | _ => none }
def LogicRisesWrongFalsely : Prop := logicRisesRow.holds Try.pinned (OpenSpec.ofChange logicRisesWrong)

/-- 'silkwormlaw01.LogicTurns': WHATEVER THE INPUT: true; the input reads as it did. -/
def logicTurnsSpec : ChangeSpec := { name := "logicTurns", fn := fun _ => fun
  | [d1, d2] => { results := [.lit (.bool true)], args := [d1, d2] }
  | _ => none }
def logicTurnsRow : OpenClaim := { program := "ytdacoincdkighaa", sum := "8fb56fed7f1cf2d9a99e0e092781f3f620374f3db37f878fbc8ccf397af591fd", func := "silkworm/silkwormlaw01.LogicTurns", spec := "logicTurns", inPlace := ["internal/abi.NoEscape", "internal/bytealg.MakeNoZero"], apart := false }
def LogicTurnsSaid : Prop := logicTurnsRow.holds Try.pinned (OpenSpec.ofChange logicTurnsSpec)

/-- ITS FALSE NEIGHBOUR: 'it returns false'. Refute it at one input. -/
def logicTurnsWrong : ChangeSpec := { name := "logicTurns", fn := fun _ => fun
  | [d1, d2] => { results := [.lit (.bool false)], args := [d1, d2] }
  | _ => none }
def LogicTurnsWrongFalsely : Prop := logicTurnsRow.holds Try.pinned (OpenSpec.ofChange logicTurnsWrong)

/-- 'silkwormlaw01.LogicShifts': WHATEVER THE INPUT: true; the input reads as it did. -/
def logicShiftsSpec : ChangeSpec := { name := "logicShifts", fn := fun _ => fun
  | [d1, d2, d3] => { results := [.lit (.bool true)], args := [d1, d2, d3] }
  | _ => none }
def logicShiftsRow : OpenClaim := { program := "ytdacoincdkighaa", sum := "8fb56fed7f1cf2d9a99e0e092781f3f620374f3db37f878fbc8ccf397af591fd", func := "silkworm/silkwormlaw01.LogicShifts", spec := "logicShifts", inPlace := ["internal/abi.NoEscape", "internal/bytealg.MakeNoZero"], apart := false }
def LogicShiftsSaid : Prop := logicShiftsRow.holds Try.pinned (OpenSpec.ofChange logicShiftsSpec)

/-- ITS FALSE NEIGHBOUR: 'it returns false'. Refute it at one input. -/
def logicShiftsWrong : ChangeSpec := { name := "logicShifts", fn := fun _ => fun
  | [d1, d2, d3] => { results := [.lit (.bool false)], args := [d1, d2, d3] }
  | _ => none }
def LogicShiftsWrongFalsely : Prop := logicShiftsRow.holds Try.pinned (OpenSpec.ofChange logicShiftsWrong)

/-- 'silkwormlaw01.LogicSplits': WHATEVER THE INPUT: true; the input reads as it did. -/
def logicSplitsSpec : ChangeSpec := { name := "logicSplits", fn := fun _ => fun
  | [d1, d2] => { results := [.lit (.bool true)], args := [d1, d2] }
  | _ => none }
def logicSplitsRow : OpenClaim := { program := "ytdacoincdkighaa", sum := "8fb56fed7f1cf2d9a99e0e092781f3f620374f3db37f878fbc8ccf397af591fd", func := "silkworm/silkwormlaw01.LogicSplits", spec := "logicSplits", inPlace := ["internal/abi.NoEscape", "internal/bytealg.MakeNoZero"], apart := false }
def LogicSplitsSaid : Prop := logicSplitsRow.holds Try.pinned (OpenSpec.ofChange logicSplitsSpec)

/-- ITS FALSE NEIGHBOUR: 'it returns false'. Refute it at one input. -/
def logicSplitsWrong : ChangeSpec := { name := "logicSplits", fn := fun _ => fun
  | [d1, d2] => { results := [.lit (.bool false)], args := [d1, d2] }
  | _ => none }
def LogicSplitsWrongFalsely : Prop := logicSplitsRow.holds Try.pinned (OpenSpec.ofChange logicSplitsWrong)

/-- 'silkwormlaw01.LogicRows': WHATEVER THE INPUT: true; the input reads as it did. -/
def logicRowsSpec : ChangeSpec := { name := "logicRows", fn := fun _ => fun
  | [d1, d2] => { results := [.lit (.bool true)], args := [d1, d2] }
  | _ => none }
def logicRowsRow : OpenClaim := { program := "ytdacoincdkighaa", sum := "8fb56fed7f1cf2d9a99e0e092781f3f620374f3db37f878fbc8ccf397af591fd", func := "silkworm/silkwormlaw01.LogicRows", spec := "logicRows", inPlace := ["internal/abi.NoEscape", "internal/bytealg.MakeNoZero"], apart := false }
def LogicRowsSaid : Prop := logicRowsRow.holds Try.pinned (OpenSpec.ofChange logicRowsSpec)

/-- ITS FALSE NEIGHBOUR: 'it returns false'. Refute it at one input. -/
def logicRowsWrong : ChangeSpec := { name := "logicRows", fn := fun _ => fun
  | [d1, d2] => { results := [.lit (.bool false)], args := [d1, d2] }
  | _ => none }
def LogicRowsWrongFalsely : Prop := logicRowsRow.holds Try.pinned (OpenSpec.ofChange logicRowsWrong)

/-- 'silkwormlaw01.LogicFolds': WHATEVER THE INPUT: true; the input reads as it did. -/
def logicFoldsSpec : ChangeSpec := { name := "logicFolds", fn := fun _ => fun
  | [d] => { results := [.lit (.bool true)], args := [d] }
  | _ => none }
def logicFoldsRow : OpenClaim := { program := "ytdacoincdkighaa", sum := "8fb56fed7f1cf2d9a99e0e092781f3f620374f3db37f878fbc8ccf397af591fd", func := "silkworm/silkwormlaw01.LogicFolds", spec := "logicFolds", inPlace := ["internal/abi.NoEscape", "internal/bytealg.MakeNoZero"], apart := false }
def LogicFoldsSaid : Prop := logicFoldsRow.holds Try.pinned (OpenSpec.ofChange logicFoldsSpec)

/-- ITS FALSE NEIGHBOUR: 'it returns false'. Refute it at one input. -/
def logicFoldsWrong : ChangeSpec := { name := "logicFolds", fn := fun _ => fun
  | [d] => { results := [.lit (.bool false)], args := [d] }
  | _ => none }
def LogicFoldsWrongFalsely : Prop := logicFoldsRow.holds Try.pinned (OpenSpec.ofChange logicFoldsWrong)

/- THE SECOND FORM. 'bulk': how many values and letters a reading holds, each counted each time it is reached (what is shared counts as often as it is met; a slice's spare places count too). A statement '..UptoSaid' is the law's where the arguments, and the package variables that the reading takes, are together of bulk at most 1048576: NARROWER than '..Said'. Prove '..Said' where nothing that the law and all that it calls make is longer than what came in: it says more and counts as full. Else prove '..UptoSaid'. A law counts once. -/
mutual
def uptoBulk {H : Type} : DataW H → Nat
  | .lit (.string bytes) => bytes.length + 1
  | .lit _ => 1
  | .nil => 1
  | .ptr d => uptoBulk d + 1
  | .slice elems spare => uptoBulkAll elems + uptoBulkAll spare + 1
  | .agg parts => uptoBulkAll parts + 1
  | .iface _ d => uptoBulk d + 1
  | .map entries => uptoBulkEntries entries + 1
  | .held _ => 1
def uptoBulkAll {H : Type} : List (DataW H) → Nat
  | [] => 0
  | d :: r => uptoBulk d + uptoBulkAll r
def uptoBulkEntries {H : Type} : List (Lit × DataW H) → Nat
  | [] => 0
  | x :: r => uptoBulkEntry x + uptoBulkEntries r
def uptoBulkEntry {H : Type} : Lit × DataW H → Nat
  | (.string bytes, d) => bytes.length + uptoBulk d + 1
  | (_, d) => uptoBulk d + 1
 end
def uptoSmall : (H : Type) → List (DataW H) → Bool := fun _ ds => decide (uptoBulkAll ds ≤ 1048576)
def OpenSpec.upto (s : _root_.Go.ChangeSpec) : _root_.Go.OpenSpec := { _root_.Go.OpenSpec.ofChange s with cond := some uptoSmall }

/-- 'silkwormlaw01.LogicBinary', WHERE WHAT IT READS IS OF BULK AT MOST 1048576: true; the input reads as it did. -/
def logicBinaryUptoRow : OpenClaim := { program := "ytdacoincdkighaa", sum := "8fb56fed7f1cf2d9a99e0e092781f3f620374f3db37f878fbc8ccf397af591fd", func := "silkworm/silkwormlaw01.LogicBinary", spec := "logicBinary", inPlace := ["internal/abi.NoEscape", "internal/bytealg.MakeNoZero"], apart := false, narrowed := true }
def LogicBinaryUptoSaid : Prop := logicBinaryUptoRow.holds Try.pinned (OpenSpec.upto logicBinarySpec)

/-- 'silkwormlaw01.LogicUnary', WHERE WHAT IT READS IS OF BULK AT MOST 1048576: true; the input reads as it did. -/
def logicUnaryUptoRow : OpenClaim := { program := "ytdacoincdkighaa", sum := "8fb56fed7f1cf2d9a99e0e092781f3f620374f3db37f878fbc8ccf397af591fd", func := "silkworm/silkwormlaw01.LogicUnary", spec := "logicUnary", inPlace := ["internal/abi.NoEscape", "internal/bytealg.MakeNoZero"], apart := false, narrowed := true }
def LogicUnaryUptoSaid : Prop := logicUnaryUptoRow.holds Try.pinned (OpenSpec.upto logicUnarySpec)

/-- 'silkwormlaw01.LogicCond', WHERE WHAT IT READS IS OF BULK AT MOST 1048576: true; the input reads as it did. -/
def logicCondUptoRow : OpenClaim := { program := "ytdacoincdkighaa", sum := "8fb56fed7f1cf2d9a99e0e092781f3f620374f3db37f878fbc8ccf397af591fd", func := "silkworm/silkwormlaw01.LogicCond", spec := "logicCond", inPlace := ["internal/abi.NoEscape", "internal/bytealg.MakeNoZero"], apart := false, narrowed := true }
def LogicCondUptoSaid : Prop := logicCondUptoRow.holds Try.pinned (OpenSpec.upto logicCondSpec)

/-- 'silkwormlaw01.LogicParts', WHERE WHAT IT READS IS OF BULK AT MOST 1048576: true; the input reads as it did. -/
def logicPartsUptoRow : OpenClaim := { program := "ytdacoincdkighaa", sum := "8fb56fed7f1cf2d9a99e0e092781f3f620374f3db37f878fbc8ccf397af591fd", func := "silkworm/silkwormlaw01.LogicParts", spec := "logicParts", inPlace := ["internal/abi.NoEscape", "internal/bytealg.MakeNoZero"], apart := false, narrowed := true }
def LogicPartsUptoSaid : Prop := logicPartsUptoRow.holds Try.pinned (OpenSpec.upto logicPartsSpec)

/-- 'silkwormlaw01.LogicNumbers', WHERE WHAT IT READS IS OF BULK AT MOST 1048576: true; the input reads as it did. -/
def logicNumbersUptoRow : OpenClaim := { program := "ytdacoincdkighaa", sum := "8fb56fed7f1cf2d9a99e0e092781f3f620374f3db37f878fbc8ccf397af591fd", func := "silkworm/silkwormlaw01.LogicNumbers", spec := "logicNumbers", inPlace := ["internal/abi.NoEscape", "internal/bytealg.MakeNoZero"], apart := false, narrowed := true }
def LogicNumbersUptoSaid : Prop := logicNumbersUptoRow.holds Try.pinned (OpenSpec.upto logicNumbersSpec)

/-- 'silkwormlaw01.LogicSums', WHERE WHAT IT READS IS OF BULK AT MOST 1048576: true; the input reads as it did. -/
def logicSumsUptoRow : OpenClaim := { program := "ytdacoincdkighaa", sum := "8fb56fed7f1cf2d9a99e0e092781f3f620374f3db37f878fbc8ccf397af591fd", func := "silkworm/silkwormlaw01.LogicSums", spec := "logicSums", inPlace := ["internal/abi.NoEscape", "internal/bytealg.MakeNoZero"], apart := false, narrowed := true }
def LogicSumsUptoSaid : Prop := logicSumsUptoRow.holds Try.pinned (OpenSpec.upto logicSumsSpec)

/-- 'silkwormlaw01.LogicLess', WHERE WHAT IT READS IS OF BULK AT MOST 1048576: true; the input reads as it did. -/
def logicLessUptoRow : OpenClaim := { program := "ytdacoincdkighaa", sum := "8fb56fed7f1cf2d9a99e0e092781f3f620374f3db37f878fbc8ccf397af591fd", func := "silkworm/silkwormlaw01.LogicLess", spec := "logicLess", inPlace := ["internal/abi.NoEscape", "internal/bytealg.MakeNoZero"], apart := false, narrowed := true }
def LogicLessUptoSaid : Prop := logicLessUptoRow.holds Try.pinned (OpenSpec.upto logicLessSpec)

/-- 'silkwormlaw01.LogicRises', WHERE WHAT IT READS IS OF BULK AT MOST 1048576: true; the input reads as it did. -/
def logicRisesUptoRow : OpenClaim := { program := "ytdacoincdkighaa", sum := "8fb56fed7f1cf2d9a99e0e092781f3f620374f3db37f878fbc8ccf397af591fd", func := "silkworm/silkwormlaw01.LogicRises", spec := "logicRises", inPlace := ["internal/abi.NoEscape", "internal/bytealg.MakeNoZero"], apart := false, narrowed := true }
def LogicRisesUptoSaid : Prop := logicRisesUptoRow.holds Try.pinned (OpenSpec.upto logicRisesSpec)

/-- 'silkwormlaw01.LogicTurns', WHERE WHAT IT READS IS OF BULK AT MOST 1048576: true; the input reads as it did. -/
def logicTurnsUptoRow : OpenClaim := { program := "ytdacoincdkighaa", sum := "8fb56fed7f1cf2d9a99e0e092781f3f620374f3db37f878fbc8ccf397af591fd", func := "silkworm/silkwormlaw01.LogicTurns", spec := "logicTurns", inPlace := ["internal/abi.NoEscape", "internal/bytealg.MakeNoZero"], apart := false, narrowed := true }
def LogicTurnsUptoSaid : Prop := logicTurnsUptoRow.holds Try.pinned (OpenSpec.upto logicTurnsSpec)

/-- 'silkwormlaw01.LogicShifts', WHERE WHAT IT READS IS OF BULK AT MOST 1048576: true; the input reads as it did. -/
def logicShiftsUptoRow : OpenClaim := { program := "ytdacoincdkighaa", sum := "8fb56fed7f1cf2d9a99e0e092781f3f620374f3db37f878fbc8ccf397af591fd", func := "silkworm/silkwormlaw01.LogicShifts", spec := "logicShifts", inPlace := ["internal/abi.NoEscape", "internal/bytealg.MakeNoZero"], apart := false, narrowed := true }
def LogicShiftsUptoSaid : Prop := logicShiftsUptoRow.holds Try.pinned (OpenSpec.upto logicShiftsSpec)

/-- 'silkwormlaw01.LogicSplits', WHERE WHAT IT READS IS OF BULK AT MOST 1048576: true; the input reads as it did. -/
def logicSplitsUptoRow : OpenClaim := { program := "ytdacoincdkighaa", sum := "8fb56fed7f1cf2d9a99e0e092781f3f620374f3db37f878fbc8ccf397af591fd", func := "silkworm/silkwormlaw01.LogicSplits", spec := "logicSplits", inPlace := ["internal/abi.NoEscape", "internal/bytealg.MakeNoZero"], apart := false, narrowed := true }
def LogicSplitsUptoSaid : Prop := logicSplitsUptoRow.holds Try.pinned (OpenSpec.upto logicSplitsSpec)

/-- 'silkwormlaw01.LogicRows', WHERE WHAT IT READS IS OF BULK AT MOST 1048576: true; the input reads as it did. -/
def logicRowsUptoRow : OpenClaim := { program := "ytdacoincdkighaa", sum := "8fb56fed7f1cf2d9a99e0e092781f3f620374f3db37f878fbc8ccf397af591fd", func := "silkworm/silkwormlaw01.LogicRows", spec := "logicRows", inPlace := ["internal/abi.NoEscape", "internal/bytealg.MakeNoZero"], apart := false, narrowed := true }
def LogicRowsUptoSaid : Prop := logicRowsUptoRow.holds Try.pinned (OpenSpec.upto logicRowsSpec)

/-- 'silkwormlaw01.LogicFolds', WHERE WHAT IT READS IS OF BULK AT MOST 1048576: true; the input reads as it did. -/
def logicFoldsUptoRow : OpenClaim := { program := "ytdacoincdkighaa", sum := "8fb56fed7f1cf2d9a99e0e092781f3f620374f3db37f878fbc8ccf397af591fd", func := "silkworm/silkwormlaw01.LogicFolds", spec := "logicFolds", inPlace := ["internal/abi.NoEscape", "internal/bytealg.MakeNoZero"], apart := false, narrowed := true }
def LogicFoldsUptoSaid : Prop := logicFoldsUptoRow.holds Try.pinned (OpenSpec.upto logicFoldsSpec)

end Rows
end Go.Proofs.Ytdacoincdkighaa
