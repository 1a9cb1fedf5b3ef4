/-
  No cell of these rows narrows 'for every input' (looked for: loops, veiled, ifaces, maps, wideKeys, modest, calm, conditions, laid).
  DERIVED. THE GIVEN ROWS OF THIS SEAT. 7 by the template 'for every input the law returns true; each argument reads behind the call as it read before'; 0 by the template 'total and deterministic' (their statements: YtiecneefommdlaaTotals.lean).
  GIVEN WITH THE SEED: the statements are not yours to turn. If you find one false, say at which input.
  Laid BY PROGRAM, IN A SANDBOX (cutbox-rows.mjs): the forced cells as the released guide's own fill.sh prints them over the translation 85c80d21651b1a7d… (all of the seat's roots in one cut). By AI agents, Wed Nov 11 2026. No macro, syntax, notation, axiom, sorry.
-/
import Derived.Test.YtiecneefommdlaaChecked
import GoSem.Claim
import GoSem.ClaimJoined
import GoSem.ClaimMapViews
import Derived.JoinedTies
import Derived.KernelRfl
namespace Go.Proofs.Ytiecneefommdlaa
/- THE CELL 'sum', in the pinned program and in every row, IS THE sha256 OF THE DUMP (.gsa) THAT YtiecneefommdlaaProg.lean LOADS. Nothing in Lean hashes anything: it is a label: what it is worth is what the hold of that sum in a sandbox is worth. -/
noncomputable def Try.pinned : Pinned := { name := "ytiecneefommdlaa", sum := "85c80d21651b1a7da611e6584db834347c42daeeafbfdb36a5cb1ad8cb3d69a9", checked := Try.checked }
namespace Rows
def none {H : Type} : Left H := { results := [], args := [] }

/-- 'silkwormlaw20.StatsOf': WHATEVER THE INPUT: true; the input reads as it did. -/
def statsOfSpec : ChangeSpec := { name := "statsOf", fn := fun _ => fun
  | [d1, d2, d3] => { results := [.lit (.bool true)], args := [d1, d2, d3] }
  | _ => none }
def statsOfRow : OpenClaim := { program := "ytiecneefommdlaa", sum := "85c80d21651b1a7da611e6584db834347c42daeeafbfdb36a5cb1ad8cb3d69a9", func := "silkworm/silkwormlaw20.StatsOf", spec := "statsOf", inPlace := ["math.Float64frombits", "math.Float64bits"], apart := false }
def StatsOfSaid : Prop := statsOfRow.holds Try.pinned (OpenSpec.ofChange statsOfSpec)

/-- ITS FALSE NEIGHBOUR: 'it returns false'. Refute it at one input. -/
def statsOfWrong : ChangeSpec := { name := "statsOf", fn := fun _ => fun
  | [d1, d2, d3] => { results := [.lit (.bool false)], args := [d1, d2, d3] }
  | _ => none }
def StatsOfWrongFalsely : Prop := statsOfRow.holds Try.pinned (OpenSpec.ofChange statsOfWrong)

/-- 'silkwormlaw20.StatsRatios': WHATEVER THE INPUT: true; the input reads as it did. -/
def statsRatiosSpec : ChangeSpec := { name := "statsRatios", fn := fun _ => fun
  | [d1, d2] => { results := [.lit (.bool true)], args := [d1, d2] }
  | _ => none }
def statsRatiosRow : OpenClaim := { program := "ytiecneefommdlaa", sum := "85c80d21651b1a7da611e6584db834347c42daeeafbfdb36a5cb1ad8cb3d69a9", func := "silkworm/silkwormlaw20.StatsRatios", spec := "statsRatios", inPlace := ["math.Float64frombits", "math.Float64bits"], apart := false }
def StatsRatiosSaid : Prop := statsRatiosRow.holds Try.pinned (OpenSpec.ofChange statsRatiosSpec)

/-- ITS FALSE NEIGHBOUR: 'it returns false'. Refute it at one input. -/
def statsRatiosWrong : ChangeSpec := { name := "statsRatios", fn := fun _ => fun
  | [d1, d2] => { results := [.lit (.bool false)], args := [d1, d2] }
  | _ => none }
def StatsRatiosWrongFalsely : Prop := statsRatiosRow.holds Try.pinned (OpenSpec.ofChange statsRatiosWrong)

/-- 'silkwormlaw20.StatsOrders': WHATEVER THE INPUT: true; the input reads as it did. -/
def statsOrdersSpec : ChangeSpec := { name := "statsOrders", fn := fun _ => fun
  | [d1, d2, d3] => { results := [.lit (.bool true)], args := [d1, d2, d3] }
  | _ => none }
def statsOrdersRow : OpenClaim := { program := "ytiecneefommdlaa", sum := "85c80d21651b1a7da611e6584db834347c42daeeafbfdb36a5cb1ad8cb3d69a9", func := "silkworm/silkwormlaw20.StatsOrders", spec := "statsOrders", inPlace := ["math.Float64bits", "math.Float64frombits"], apart := false }
def StatsOrdersSaid : Prop := statsOrdersRow.holds Try.pinned (OpenSpec.ofChange statsOrdersSpec)

/-- ITS FALSE NEIGHBOUR: 'it returns false'. Refute it at one input. -/
def statsOrdersWrong : ChangeSpec := { name := "statsOrders", fn := fun _ => fun
  | [d1, d2, d3] => { results := [.lit (.bool false)], args := [d1, d2, d3] }
  | _ => none }
def StatsOrdersWrongFalsely : Prop := statsOrdersRow.holds Try.pinned (OpenSpec.ofChange statsOrdersWrong)

/-- 'silkwormlaw20.StatsMills': WHATEVER THE INPUT: true; the input reads as it did. -/
def statsMillsSpec : ChangeSpec := { name := "statsMills", fn := fun _ => fun
  | [d1, d2] => { results := [.lit (.bool true)], args := [d1, d2] }
  | _ => none }
def statsMillsRow : OpenClaim := { program := "ytiecneefommdlaa", sum := "85c80d21651b1a7da611e6584db834347c42daeeafbfdb36a5cb1ad8cb3d69a9", func := "silkworm/silkwormlaw20.StatsMills", spec := "statsMills", inPlace := ["math.Float64bits", "math.Float64frombits"], apart := false }
def StatsMillsSaid : Prop := statsMillsRow.holds Try.pinned (OpenSpec.ofChange statsMillsSpec)

/-- ITS FALSE NEIGHBOUR: 'it returns false'. Refute it at one input. -/
def statsMillsWrong : ChangeSpec := { name := "statsMills", fn := fun _ => fun
  | [d1, d2] => { results := [.lit (.bool false)], args := [d1, d2] }
  | _ => none }
def StatsMillsWrongFalsely : Prop := statsMillsRow.holds Try.pinned (OpenSpec.ofChange statsMillsWrong)

/-- 'silkwormlaw20.StatsEven': WHATEVER THE INPUT: true; the input reads as it did. -/
def statsEvenSpec : ChangeSpec := { name := "statsEven", fn := fun _ => fun
  | [d1, d2] => { results := [.lit (.bool true)], args := [d1, d2] }
  | _ => none }
def statsEvenRow : OpenClaim := { program := "ytiecneefommdlaa", sum := "85c80d21651b1a7da611e6584db834347c42daeeafbfdb36a5cb1ad8cb3d69a9", func := "silkworm/silkwormlaw20.StatsEven", spec := "statsEven", inPlace := ["math.Float64frombits", "math.Float64bits"], apart := false }
def StatsEvenSaid : Prop := statsEvenRow.holds Try.pinned (OpenSpec.ofChange statsEvenSpec)

/-- ITS FALSE NEIGHBOUR: 'it returns false'. Refute it at one input. -/
def statsEvenWrong : ChangeSpec := { name := "statsEven", fn := fun _ => fun
  | [d1, d2] => { results := [.lit (.bool false)], args := [d1, d2] }
  | _ => none }
def StatsEvenWrongFalsely : Prop := statsEvenRow.holds Try.pinned (OpenSpec.ofChange statsEvenWrong)

/-- 'silkwormlaw20.StatsParts': WHATEVER THE INPUT: true; the input reads as it did. -/
def statsPartsSpec : ChangeSpec := { name := "statsParts", fn := fun _ => fun
  | [d1, d2, d3] => { results := [.lit (.bool true)], args := [d1, d2, d3] }
  | _ => none }
def statsPartsRow : OpenClaim := { program := "ytiecneefommdlaa", sum := "85c80d21651b1a7da611e6584db834347c42daeeafbfdb36a5cb1ad8cb3d69a9", func := "silkworm/silkwormlaw20.StatsParts", spec := "statsParts", inPlace := ["math.Float64frombits", "math.Float64bits"], apart := false }
def StatsPartsSaid : Prop := statsPartsRow.holds Try.pinned (OpenSpec.ofChange statsPartsSpec)

/-- ITS FALSE NEIGHBOUR: 'it returns false'. Refute it at one input. -/
def statsPartsWrong : ChangeSpec := { name := "statsParts", fn := fun _ => fun
  | [d1, d2, d3] => { results := [.lit (.bool false)], args := [d1, d2, d3] }
  | _ => none }
def StatsPartsWrongFalsely : Prop := statsPartsRow.holds Try.pinned (OpenSpec.ofChange statsPartsWrong)

/-- 'silkwormlaw20.StatsSigns': WHATEVER THE INPUT: true; the input reads as it did. -/
def statsSignsSpec : ChangeSpec := { name := "statsSigns", fn := fun _ => fun
  | [d1, d2] => { results := [.lit (.bool true)], args := [d1, d2] }
  | _ => none }
def statsSignsRow : OpenClaim := { program := "ytiecneefommdlaa", sum := "85c80d21651b1a7da611e6584db834347c42daeeafbfdb36a5cb1ad8cb3d69a9", func := "silkworm/silkwormlaw20.StatsSigns", spec := "statsSigns", inPlace := ["math.Float64bits", "math.Float64frombits"], apart := false }
def StatsSignsSaid : Prop := statsSignsRow.holds Try.pinned (OpenSpec.ofChange statsSignsSpec)

/-- ITS FALSE NEIGHBOUR: 'it returns false'. Refute it at one input. -/
def statsSignsWrong : ChangeSpec := { name := "statsSigns", fn := fun _ => fun
  | [d1, d2] => { results := [.lit (.bool false)], args := [d1, d2] }
  | _ => none }
def StatsSignsWrongFalsely : Prop := statsSignsRow.holds Try.pinned (OpenSpec.ofChange statsSignsWrong)

/- THE SECOND FORM. 'bulk': how many values and letters a reading holds, each counted each time it is reached (what is shared counts as often as it is met; a slice's spare places count too). A statement '..UptoSaid' is the law's where the arguments, and the package variables that the reading takes, are together of bulk at most 1048576: NARROWER than '..Said'. Prove '..Said' where nothing that the law and all that it calls make is longer than what came in: it says more and counts as full. Else prove '..UptoSaid'. A law counts once. -/
mutual
def uptoBulk {H : Type} : DataW H → Nat
  | .lit (.string bytes) => bytes.length + 1
  | .lit _ => 1
  | .nil => 1
  | .ptr d => uptoBulk d + 1
  | .slice elems spare => uptoBulkAll elems + uptoBulkAll spare + 1
  | .agg parts => uptoBulkAll parts + 1
  | .iface _ d => uptoBulk d + 1
  | .map entries => uptoBulkEntries entries + 1
  | .held _ => 1
def uptoBulkAll {H : Type} : List (DataW H) → Nat
  | [] => 0
  | d :: r => uptoBulk d + uptoBulkAll r
def uptoBulkEntries {H : Type} : List (Lit × DataW H) → Nat
  | [] => 0
  | x :: r => uptoBulkEntry x + uptoBulkEntries r
def uptoBulkEntry {H : Type} : Lit × DataW H → Nat
  | (.string bytes, d) => bytes.length + uptoBulk d + 1
  | (_, d) => uptoBulk d + 1
 end
def uptoSmall : (H : Type) → List (DataW H) → Bool := fun _ ds => decide (uptoBulkAll ds ≤ 1048576)
def OpenSpec.upto (s : _root_.Go.ChangeSpec) : _root_.Go.OpenSpec := { _root_.Go.OpenSpec.ofChange s with cond := some uptoSmall }

/-- 'silkwormlaw20.StatsOf', WHERE WHAT IT READS IS OF BULK AT MOST 1048576: true; the input reads as it did. -/
def statsOfUptoRow : OpenClaim := { program := "ytiecneefommdlaa", sum := "85c80d21651b1a7da611e6584db834347c42daeeafbfdb36a5cb1ad8cb3d69a9", func := "silkworm/silkwormlaw20.StatsOf", spec := "statsOf", inPlace := ["math.Float64frombits", "math.Float64bits"], apart := false, narrowed := true }
def StatsOfUptoSaid : Prop := statsOfUptoRow.holds Try.pinned (OpenSpec.upto statsOfSpec)

/-- 'silkwormlaw20.StatsRatios', WHERE WHAT IT READS IS OF BULK AT MOST 1048576: true; the input reads as it did. -/
def statsRatiosUptoRow : OpenClaim := { program := "ytiecneefommdlaa", sum := "85c80d21651b1a7da611e6584db834347c42daeeafbfdb36a5cb1ad8cb3d69a9", func := "silkworm/silkwormlaw20.StatsRatios", spec := "statsRatios", inPlace := ["math.Float64frombits", "math.Float64bits"], apart := false, narrowed := true }
def StatsRatiosUptoSaid : Prop := statsRatiosUptoRow.holds Try.pinned (OpenSpec.upto statsRatiosSpec)

/-- 'silkwormlaw20.StatsOrders', WHERE WHAT IT READS IS OF BULK AT MOST 1048576: true; the input reads as it did. -/
def statsOrdersUptoRow : OpenClaim := { program := "ytiecneefommdlaa", sum := "85c80d21651b1a7da611e6584db834347c42daeeafbfdb36a5cb1ad8cb3d69a9", func := "silkworm/silkwormlaw20.StatsOrders", spec := "statsOrders", inPlace := ["math.Float64bits", "math.Float64frombits"], apart := false, narrowed := true }
def StatsOrdersUptoSaid : Prop := statsOrdersUptoRow.holds Try.pinned (OpenSpec.upto statsOrdersSpec)

/-- 'silkwormlaw20.StatsMills', WHERE WHAT IT READS IS OF BULK AT MOST 1048576: true; the input reads as it did. -/
def statsMillsUptoRow : OpenClaim := { program := "ytiecneefommdlaa", sum := "85c80d21651b1a7da611e6584db834347c42daeeafbfdb36a5cb1ad8cb3d69a9", func := "silkworm/silkwormlaw20.StatsMills", spec := "statsMills", inPlace := ["math.Float64bits", "math.Float64frombits"], apart := false, narrowed := true }
def StatsMillsUptoSaid : Prop := statsMillsUptoRow.holds Try.pinned (OpenSpec.upto statsMillsSpec)

/-- 'silkwormlaw20.StatsEven', WHERE WHAT IT READS IS OF BULK AT MOST 1048576: true; the input reads as it did. -/
def statsEvenUptoRow : OpenClaim := { program := "ytiecneefommdlaa", sum := "85c80d21651b1a7da611e6584db834347c42daeeafbfdb36a5cb1ad8cb3d69a9", func := "silkworm/silkwormlaw20.StatsEven", spec := "statsEven", inPlace := ["math.Float64frombits", "math.Float64bits"], apart := false, narrowed := true }
def StatsEvenUptoSaid : Prop := statsEvenUptoRow.holds Try.pinned (OpenSpec.upto statsEvenSpec)

/-- 'silkwormlaw20.StatsParts', WHERE WHAT IT READS IS OF BULK AT MOST 1048576: true; the input reads as it did. -/
def statsPartsUptoRow : OpenClaim := { program := "ytiecneefommdlaa", sum := "85c80d21651b1a7da611e6584db834347c42daeeafbfdb36a5cb1ad8cb3d69a9", func := "silkworm/silkwormlaw20.StatsParts", spec := "statsParts", inPlace := ["math.Float64frombits", "math.Float64bits"], apart := false, narrowed := true }
def StatsPartsUptoSaid : Prop := statsPartsUptoRow.holds Try.pinned (OpenSpec.upto statsPartsSpec)

/-- 'silkwormlaw20.StatsSigns', WHERE WHAT IT READS IS OF BULK AT MOST 1048576: true; the input reads as it did. -/
def statsSignsUptoRow : OpenClaim := { program := "ytiecneefommdlaa", sum := "85c80d21651b1a7da611e6584db834347c42daeeafbfdb36a5cb1ad8cb3d69a9", func := "silkworm/silkwormlaw20.StatsSigns", spec := "statsSigns", inPlace := ["math.Float64bits", "math.Float64frombits"], apart := false, narrowed := true }
def StatsSignsUptoSaid : Prop := statsSignsUptoRow.holds Try.pinned (OpenSpec.upto statsSignsSpec)

end Rows
end Go.Proofs.Ytiecneefommdlaa
