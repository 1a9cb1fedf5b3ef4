/-
  No cell of these rows narrows 'for every input' (looked for: loops, veiled, ifaces, maps, wideKeys, modest, calm, conditions, laid).
  DERIVED. THE GIVEN ROWS OF THIS SEAT. 6 by the template 'for every input the law returns true; each argument reads behind the call as it read before'; 0 by the template 'total and deterministic' (their statements: YtfefgldngkpgjaaTotals.lean).
  GIVEN WITH THE SEED: the statements are not yours to turn. If you find one false, say at which input.
  Laid BY PROGRAM, IN A SANDBOX (cutbox-rows.mjs): the forced cells as the released guide's own fill.sh prints them over the translation 309ccc76dc66bfdd… (all of the seat's roots in one cut). By AI agents, Wed Nov 11 2026. No macro, syntax, notation, axiom, sorry.
-/
import Derived.Test.YtfefgldngkpgjaaChecked
import GoSem.Claim
import GoSem.ClaimJoined
import GoSem.ClaimMapViews
import Derived.JoinedTies
import Derived.KernelRfl
namespace Go.Proofs.Ytfefgldngkpgjaa
/- THE CELL 'sum', in the pinned program and in every row, IS THE sha256 OF THE DUMP (.gsa) THAT YtfefgldngkpgjaaProg.lean LOADS. Nothing in Lean hashes anything: it is a label: what it is worth is what the hold of that sum in a sandbox is worth. -/
noncomputable def Try.pinned : Pinned := { name := "ytfefgldngkpgjaa", sum := "309ccc76dc66bfdd19fd33ecbeb34c52db422959e3634c2f546e7f7460d3367d", checked := Try.checked }
namespace Rows
def none {H : Type} : Left H := { results := [], args := [] }

/-- 'silkwormlaw18.WaveChecks': WHATEVER THE INPUT: true; the input reads as it did. -/
def waveChecksSpec : ChangeSpec := { name := "waveChecks", fn := fun _ => fun
  | [d] => { results := [.lit (.bool true)], args := [d] }
  | _ => none }
def waveChecksRow : OpenClaim := { program := "ytfefgldngkpgjaa", sum := "309ccc76dc66bfdd19fd33ecbeb34c52db422959e3634c2f546e7f7460d3367d", func := "silkworm/silkwormlaw18.WaveChecks", spec := "waveChecks", unfollowed := true, recurses := true, apart := false }
def WaveChecksSaid : Prop := waveChecksRow.holds Try.pinned (OpenSpec.ofChange waveChecksSpec)

/-- ITS FALSE NEIGHBOUR: 'it returns false'. Refute it at one input. -/
def waveChecksWrong : ChangeSpec := { name := "waveChecks", fn := fun _ => fun
  | [d] => { results := [.lit (.bool false)], args := [d] }
  | _ => none }
def WaveChecksWrongFalsely : Prop := waveChecksRow.holds Try.pinned (OpenSpec.ofChange waveChecksWrong)

/-- 'silkwormlaw18.WaveCuts': WHATEVER THE INPUT: true; the input reads as it did. -/
def waveCutsSpec : ChangeSpec := { name := "waveCuts", fn := fun _ => fun
  | [d1, d2] => { results := [.lit (.bool true)], args := [d1, d2] }
  | _ => none }
def waveCutsRow : OpenClaim := { program := "ytfefgldngkpgjaa", sum := "309ccc76dc66bfdd19fd33ecbeb34c52db422959e3634c2f546e7f7460d3367d", func := "silkworm/silkwormlaw18.WaveCuts", spec := "waveCuts", unfollowed := true, recurses := true, apart := false }
def WaveCutsSaid : Prop := waveCutsRow.holds Try.pinned (OpenSpec.ofChange waveCutsSpec)

/-- ITS FALSE NEIGHBOUR: 'it returns false'. Refute it at one input. -/
def waveCutsWrong : ChangeSpec := { name := "waveCuts", fn := fun _ => fun
  | [d1, d2] => { results := [.lit (.bool false)], args := [d1, d2] }
  | _ => none }
def WaveCutsWrongFalsely : Prop := waveCutsRow.holds Try.pinned (OpenSpec.ofChange waveCutsWrong)

/-- 'silkwormlaw18.WaveBegins': WHATEVER THE INPUT: true; the input reads as it did. -/
def waveBeginsSpec : ChangeSpec := { name := "waveBegins", fn := fun _ => fun
  | [d1, d2, d3] => { results := [.lit (.bool true)], args := [d1, d2, d3] }
  | _ => none }
def waveBeginsRow : OpenClaim := { program := "ytfefgldngkpgjaa", sum := "309ccc76dc66bfdd19fd33ecbeb34c52db422959e3634c2f546e7f7460d3367d", func := "silkworm/silkwormlaw18.WaveBegins", spec := "waveBegins", unfollowed := true, recurses := true, apart := false }
def WaveBeginsSaid : Prop := waveBeginsRow.holds Try.pinned (OpenSpec.ofChange waveBeginsSpec)

/-- ITS FALSE NEIGHBOUR: 'it returns false'. Refute it at one input. -/
def waveBeginsWrong : ChangeSpec := { name := "waveBegins", fn := fun _ => fun
  | [d1, d2, d3] => { results := [.lit (.bool false)], args := [d1, d2, d3] }
  | _ => none }
def WaveBeginsWrongFalsely : Prop := waveBeginsRow.holds Try.pinned (OpenSpec.ofChange waveBeginsWrong)

/-- 'silkwormlaw18.WaveMerges': WHATEVER THE INPUT: true; the input reads as it did. -/
def waveMergesSpec : ChangeSpec := { name := "waveMerges", fn := fun _ => fun
  | [d1, d2] => { results := [.lit (.bool true)], args := [d1, d2] }
  | _ => none }
def waveMergesRow : OpenClaim := { program := "ytfefgldngkpgjaa", sum := "309ccc76dc66bfdd19fd33ecbeb34c52db422959e3634c2f546e7f7460d3367d", func := "silkworm/silkwormlaw18.WaveMerges", spec := "waveMerges", unfollowed := true, recurses := true, apart := false }
def WaveMergesSaid : Prop := waveMergesRow.holds Try.pinned (OpenSpec.ofChange waveMergesSpec)

/-- ITS FALSE NEIGHBOUR: 'it returns false'. Refute it at one input. -/
def waveMergesWrong : ChangeSpec := { name := "waveMerges", fn := fun _ => fun
  | [d1, d2] => { results := [.lit (.bool false)], args := [d1, d2] }
  | _ => none }
def WaveMergesWrongFalsely : Prop := waveMergesRow.holds Try.pinned (OpenSpec.ofChange waveMergesWrong)

/-- 'silkwormlaw18.WaveParts': WHATEVER THE INPUT: true; the input reads as it did. -/
def wavePartsSpec : ChangeSpec := { name := "waveParts", fn := fun _ => fun
  | [d1, d2] => { results := [.lit (.bool true)], args := [d1, d2] }
  | _ => none }
def wavePartsRow : OpenClaim := { program := "ytfefgldngkpgjaa", sum := "309ccc76dc66bfdd19fd33ecbeb34c52db422959e3634c2f546e7f7460d3367d", func := "silkworm/silkwormlaw18.WaveParts", spec := "waveParts", unfollowed := true, recurses := true, apart := false }
def WavePartsSaid : Prop := wavePartsRow.holds Try.pinned (OpenSpec.ofChange wavePartsSpec)

/-- ITS FALSE NEIGHBOUR: 'it returns false'. Refute it at one input. -/
def wavePartsWrong : ChangeSpec := { name := "waveParts", fn := fun _ => fun
  | [d1, d2] => { results := [.lit (.bool false)], args := [d1, d2] }
  | _ => none }
def WavePartsWrongFalsely : Prop := wavePartsRow.holds Try.pinned (OpenSpec.ofChange wavePartsWrong)

/-- 'silkwormlaw18.WaveSteps': WHATEVER THE INPUT: true; the input reads as it did. -/
def waveStepsSpec : ChangeSpec := { name := "waveSteps", fn := fun _ => fun
  | [d1, d2, d3] => { results := [.lit (.bool true)], args := [d1, d2, d3] }
  | _ => none }
def waveStepsRow : OpenClaim := { program := "ytfefgldngkpgjaa", sum := "309ccc76dc66bfdd19fd33ecbeb34c52db422959e3634c2f546e7f7460d3367d", func := "silkworm/silkwormlaw18.WaveSteps", spec := "waveSteps", unfollowed := true, recurses := true, apart := false }
def WaveStepsSaid : Prop := waveStepsRow.holds Try.pinned (OpenSpec.ofChange waveStepsSpec)

/-- ITS FALSE NEIGHBOUR: 'it returns false'. Refute it at one input. -/
def waveStepsWrong : ChangeSpec := { name := "waveSteps", fn := fun _ => fun
  | [d1, d2, d3] => { results := [.lit (.bool false)], args := [d1, d2, d3] }
  | _ => none }
def WaveStepsWrongFalsely : Prop := waveStepsRow.holds Try.pinned (OpenSpec.ofChange waveStepsWrong)

/- THE SECOND FORM. 'bulk': how many values and letters a reading holds, each counted each time it is reached (what is shared counts as often as it is met; a slice's spare places count too). A statement '..UptoSaid' is the law's where the arguments, and the package variables that the reading takes, are together of bulk at most 1048576: NARROWER than '..Said'. Prove '..Said' where nothing that the law and all that it calls make is longer than what came in: it says more and counts as full. Else prove '..UptoSaid'. A law counts once. -/
mutual
def uptoBulk {H : Type} : DataW H → Nat
  | .lit (.string bytes) => bytes.length + 1
  | .lit _ => 1
  | .nil => 1
  | .ptr d => uptoBulk d + 1
  | .slice elems spare => uptoBulkAll elems + uptoBulkAll spare + 1
  | .agg parts => uptoBulkAll parts + 1
  | .iface _ d => uptoBulk d + 1
  | .map entries => uptoBulkEntries entries + 1
  | .held _ => 1
def uptoBulkAll {H : Type} : List (DataW H) → Nat
  | [] => 0
  | d :: r => uptoBulk d + uptoBulkAll r
def uptoBulkEntries {H : Type} : List (Lit × DataW H) → Nat
  | [] => 0
  | x :: r => uptoBulkEntry x + uptoBulkEntries r
def uptoBulkEntry {H : Type} : Lit × DataW H → Nat
  | (.string bytes, d) => bytes.length + uptoBulk d + 1
  | (_, d) => uptoBulk d + 1
 end
def uptoSmall : (H : Type) → List (DataW H) → Bool := fun _ ds => decide (uptoBulkAll ds ≤ 1048576)
def OpenSpec.upto (s : _root_.Go.ChangeSpec) : _root_.Go.OpenSpec := { _root_.Go.OpenSpec.ofChange s with cond := some uptoSmall }

/-- 'silkwormlaw18.WaveChecks', WHERE WHAT IT READS IS OF BULK AT MOST 1048576: true; the input reads as it did. -/
def waveChecksUptoRow : OpenClaim := { program := "ytfefgldngkpgjaa", sum := "309ccc76dc66bfdd19fd33ecbeb34c52db422959e3634c2f546e7f7460d3367d", func := "silkworm/silkwormlaw18.WaveChecks", spec := "waveChecks", unfollowed := true, recurses := true, apart := false, narrowed := true }
def WaveChecksUptoSaid : Prop := waveChecksUptoRow.holds Try.pinned (OpenSpec.upto waveChecksSpec)

/-- 'silkwormlaw18.WaveCuts', WHERE WHAT IT READS IS OF BULK AT MOST 1048576: true; the input reads as it did. -/
def waveCutsUptoRow : OpenClaim := { program := "ytfefgldngkpgjaa", sum := "309ccc76dc66bfdd19fd33ecbeb34c52db422959e3634c2f546e7f7460d3367d", func := "silkworm/silkwormlaw18.WaveCuts", spec := "waveCuts", unfollowed := true, recurses := true, apart := false, narrowed := true }
def WaveCutsUptoSaid : Prop := waveCutsUptoRow.holds Try.pinned (OpenSpec.upto waveCutsSpec)

/-- 'silkwormlaw18.WaveBegins', WHERE WHAT IT READS IS OF BULK AT MOST 1048576: true; the input reads as it did. -/
def waveBeginsUptoRow : OpenClaim := { program := "ytfefgldngkpgjaa", sum := "309ccc76dc66bfdd19fd33ecbeb34c52db422959e3634c2f546e7f7460d3367d", func := "silkworm/silkwormlaw18.WaveBegins", spec := "waveBegins", unfollowed := true, recurses := true, apart := false, narrowed := true }
def WaveBeginsUptoSaid : Prop := waveBeginsUptoRow.holds Try.pinned (OpenSpec.upto waveBeginsSpec)

/-- 'silkwormlaw18.WaveMerges', WHERE WHAT IT READS IS OF BULK AT MOST 1048576: true; the input reads as it did. -/
def waveMergesUptoRow : OpenClaim := { program := "ytfefgldngkpgjaa", sum := "309ccc76dc66bfdd19fd33ecbeb34c52db422959e3634c2f546e7f7460d3367d", func := "silkworm/silkwormlaw18.WaveMerges", spec := "waveMerges", unfollowed := true, recurses := true, apart := false, narrowed := true }
def WaveMergesUptoSaid : Prop := waveMergesUptoRow.holds Try.pinned (OpenSpec.upto waveMergesSpec)

/-- 'silkwormlaw18.WaveParts', WHERE WHAT IT READS IS OF BULK AT MOST 1048576: true; the input reads as it did. -/
def wavePartsUptoRow : OpenClaim := { program := "ytfefgldngkpgjaa", sum := "309ccc76dc66bfdd19fd33ecbeb34c52db422959e3634c2f546e7f7460d3367d", func := "silkworm/silkwormlaw18.WaveParts", spec := "waveParts", unfollowed := true, recurses := true, apart := false, narrowed := true }
def WavePartsUptoSaid : Prop := wavePartsUptoRow.holds Try.pinned (OpenSpec.upto wavePartsSpec)

/-- 'silkwormlaw18.WaveSteps', WHERE WHAT IT READS IS OF BULK AT MOST 1048576: true; the input reads as it did. -/
def waveStepsUptoRow : OpenClaim := { program := "ytfefgldngkpgjaa", sum := "309ccc76dc66bfdd19fd33ecbeb34c52db422959e3634c2f546e7f7460d3367d", func := "silkworm/silkwormlaw18.WaveSteps", spec := "waveSteps", unfollowed := true, recurses := true, apart := false, narrowed := true }
def WaveStepsUptoSaid : Prop := waveStepsUptoRow.holds Try.pinned (OpenSpec.upto waveStepsSpec)

end Rows
end Go.Proofs.Ytfefgldngkpgjaa
