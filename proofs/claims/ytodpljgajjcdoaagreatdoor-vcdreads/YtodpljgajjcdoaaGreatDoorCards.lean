/-
  DERIVED. GIVEN WITH THE SEED: THE CARDS: each row of YtodpljgajjcdoaaGreatDoorRows.lean that lists a variable, with what it lists TIED to the program's text (the seventh form; the later family's looks); each row that meets fmt, with fmt's text TOLD by the authors' own Lean function (tested against real Go, not proved from fmt's source: count such statements apart). THE CARD IS WHAT COUNTS. Prove the row's statement (the work); the ties are given (YtodpljgajjcdoaaGreatDoorTie.lean); close each card by the builder's one call (the guide's Derived/Test/ToyasCard.lean, 'card_holds'). Laid BY PROGRAM, IN A SANDBOX (cutbox-door.mjs). By AI agents, Wed Nov 11 2026. No macro, syntax, notation, axiom, sorry.
-/
import Derived.Test.YtodpljgajjcdoaaGreatDoorRows
import GoSem.ClaimSeven
namespace Go.Proofs.YtodpljgajjcdoaaGreatDoor
namespace Rows

/-- THE TIED CARD OF 'silkwormlaw19.VcdReads'. -/
def vcdReadsCard : Claim7 := { stood := { row := vcdReadsRow, standIns := [], harness := (true, "d294b07a04102cd4cf24c460326fa86c21ca1ba8711defd42b7d16e41d1ab212"), looks := true }, kinds := [], alts := [], laidByText := true, laidKinds := [.data, .data, .data, .data, .sentinel, .sentinel, .pinned], laidTests := true, laidLooks := .later }
def VcdReadsCardSaid : Prop := Claim7.holds Tryz.pinned (.plain (OpenSpec.ofChange vcdReadsSpec)) vcdReadsCard

/-- THE SECOND FORM's CARD OF 'silkwormlaw19.VcdReads'. -/
def vcdReadsUptoCard : Claim7 := { stood := { row := vcdReadsUptoRow, standIns := [], harness := (true, "d294b07a04102cd4cf24c460326fa86c21ca1ba8711defd42b7d16e41d1ab212"), looks := true }, kinds := [], alts := [], laidByText := true, laidKinds := [.data, .data, .data, .data, .sentinel, .sentinel, .pinned], laidTests := true, laidLooks := .later }
def VcdReadsUptoCardSaid : Prop := Claim7.holds Tryz.pinned (.plain (OpenSpec.upto vcdReadsSpec)) vcdReadsUptoCard
end Rows
end Go.Proofs.YtodpljgajjcdoaaGreatDoor
