/-
  NARROWER THAN 'FOR EVERY INPUT', by the rows' own cells (each row's printed sentence says how): ConstsNames: loops · ConstsWays: loops.
  DERIVED. THE GIVEN ROWS OF THIS SEAT. 5 by the template 'for every input the law returns true; each argument reads behind the call as it read before'; 0 by the template 'total and deterministic' (their statements: YtbpjgfemopakcaaTotals.lean).
  GIVEN WITH THE SEED: the statements are not yours to turn. If you find one false, say at which input.
  Laid BY PROGRAM, IN A SANDBOX (cutbox-rows.mjs): the forced cells as the released guide's own fill.sh prints them over the translation df015f34609b5caa… (all of the seat's roots in one cut). By AI agents, Wed Nov 11 2026. No macro, syntax, notation, axiom, sorry.
-/
import Derived.Test.YtbpjgfemopakcaaChecked
import GoSem.Claim
import GoSem.ClaimJoined
import GoSem.ClaimMapViews
import Derived.JoinedTies
import Derived.KernelRfl
namespace Go.Proofs.Ytbpjgfemopakcaa
/- THE CELL 'sum', in the pinned program and in every row, IS THE sha256 OF THE DUMP (.gsa) THAT YtbpjgfemopakcaaProg.lean LOADS. Nothing in Lean hashes anything: it is a label: what it is worth is what the hold of that sum in a sandbox is worth. -/
noncomputable def Try.pinned : Pinned := { name := "ytbpjgfemopakcaa", sum := "df015f34609b5caaaf9641f5ccc62e9fd3fc66d404aebc0262f7c870cc23a68f", checked := Try.checked }
namespace Rows
def none {H : Type} : Left H := { results := [], args := [] }

/-- 'silkwormlaw06.ConstsScopes': WHATEVER THE INPUT: true; the input reads as it did. -/
def constsScopesSpec : ChangeSpec := { name := "constsScopes", fn := fun _ => fun
  | [d1, d2, d3] => { results := [.lit (.bool true)], args := [d1, d2, d3] }
  | _ => none }
def constsScopesRow : OpenClaim := { program := "ytbpjgfemopakcaa", sum := "df015f34609b5caaaf9641f5ccc62e9fd3fc66d404aebc0262f7c870cc23a68f", func := "silkworm/silkwormlaw06.ConstsScopes", spec := "constsScopes", inPlace := ["maps.clone"], unfollowed := true, recurses := true, apart := false }
def ConstsScopesSaid : Prop := constsScopesRow.holds Try.pinned (OpenSpec.ofChange constsScopesSpec)

/-- ITS FALSE NEIGHBOUR: 'it returns false'. Refute it at one input. -/
def constsScopesWrong : ChangeSpec := { name := "constsScopes", fn := fun _ => fun
  | [d1, d2, d3] => { results := [.lit (.bool false)], args := [d1, d2, d3] }
  | _ => none }
def ConstsScopesWrongFalsely : Prop := constsScopesRow.holds Try.pinned (OpenSpec.ofChange constsScopesWrong)

/-- 'silkwormlaw06.ConstsNames': WHATEVER THE INPUT: true; the input reads as it did. -/
def constsNamesSpec : ChangeSpec := { name := "constsNames", fn := fun _ => fun
  | [d1, d2, d3] => { results := [.lit (.bool true)], args := [d1, d2, d3] }
  | _ => none }
def constsNamesRow : OpenClaim := { program := "ytbpjgfemopakcaa", sum := "df015f34609b5caaaf9641f5ccc62e9fd3fc66d404aebc0262f7c870cc23a68f", func := "silkworm/silkwormlaw06.ConstsNames", spec := "constsNames", unfollowed := true, recurses := true, loops := true, apart := false }
def ConstsNamesSaid : Prop := constsNamesRow.holds Try.pinned (OpenSpec.ofChange constsNamesSpec)

/-- ITS FALSE NEIGHBOUR: 'it returns false'. Refute it at one input. -/
def constsNamesWrong : ChangeSpec := { name := "constsNames", fn := fun _ => fun
  | [d1, d2, d3] => { results := [.lit (.bool false)], args := [d1, d2, d3] }
  | _ => none }
def ConstsNamesWrongFalsely : Prop := constsNamesRow.holds Try.pinned (OpenSpec.ofChange constsNamesWrong)

/-- 'silkwormlaw06.ConstsNobody': WHATEVER THE INPUT: true; the input reads as it did. -/
def constsNobodySpec : ChangeSpec := { name := "constsNobody", fn := fun _ => fun
  | [d1, d2] => { results := [.lit (.bool true)], args := [d1, d2] }
  | _ => none }
def constsNobodyRow : OpenClaim := { program := "ytbpjgfemopakcaa", sum := "df015f34609b5caaaf9641f5ccc62e9fd3fc66d404aebc0262f7c870cc23a68f", func := "silkworm/silkwormlaw06.ConstsNobody", spec := "constsNobody", inPlace := ["maps.clone"], unfollowed := true, recurses := true, apart := false }
def ConstsNobodySaid : Prop := constsNobodyRow.holds Try.pinned (OpenSpec.ofChange constsNobodySpec)

/-- ITS FALSE NEIGHBOUR: 'it returns false'. Refute it at one input. -/
def constsNobodyWrong : ChangeSpec := { name := "constsNobody", fn := fun _ => fun
  | [d1, d2] => { results := [.lit (.bool false)], args := [d1, d2] }
  | _ => none }
def ConstsNobodyWrongFalsely : Prop := constsNobodyRow.holds Try.pinned (OpenSpec.ofChange constsNobodyWrong)

/-- 'silkwormlaw06.ConstsSums': WHATEVER THE INPUT: true; the input reads as it did. -/
def constsSumsSpec : ChangeSpec := { name := "constsSums", fn := fun _ => fun
  | [d1, d2] => { results := [.lit (.bool true)], args := [d1, d2] }
  | _ => none }
def constsSumsRow : OpenClaim := { program := "ytbpjgfemopakcaa", sum := "df015f34609b5caaaf9641f5ccc62e9fd3fc66d404aebc0262f7c870cc23a68f", func := "silkworm/silkwormlaw06.ConstsSums", spec := "constsSums", unfollowed := true, recurses := true, apart := false }
def ConstsSumsSaid : Prop := constsSumsRow.holds Try.pinned (OpenSpec.ofChange constsSumsSpec)

/-- ITS FALSE NEIGHBOUR: 'it returns false'. Refute it at one input. -/
def constsSumsWrong : ChangeSpec := { name := "constsSums", fn := fun _ => fun
  | [d1, d2] => { results := [.lit (.bool false)], args := [d1, d2] }
  | _ => none }
def ConstsSumsWrongFalsely : Prop := constsSumsRow.holds Try.pinned (OpenSpec.ofChange constsSumsWrong)

/-- 'silkwormlaw06.ConstsWays': WHATEVER THE INPUT: true; the input reads as it did. -/
def constsWaysSpec : ChangeSpec := { name := "constsWays", fn := fun _ => fun
  | [d1, d2] => { results := [.lit (.bool true)], args := [d1, d2] }
  | _ => none }
def constsWaysRow : OpenClaim := { program := "ytbpjgfemopakcaa", sum := "df015f34609b5caaaf9641f5ccc62e9fd3fc66d404aebc0262f7c870cc23a68f", func := "silkworm/silkwormlaw06.ConstsWays", spec := "constsWays", unfollowed := true, recurses := true, loops := true, apart := false }
def ConstsWaysSaid : Prop := constsWaysRow.holds Try.pinned (OpenSpec.ofChange constsWaysSpec)

/-- ITS FALSE NEIGHBOUR: 'it returns false'. Refute it at one input. -/
def constsWaysWrong : ChangeSpec := { name := "constsWays", fn := fun _ => fun
  | [d1, d2] => { results := [.lit (.bool false)], args := [d1, d2] }
  | _ => none }
def ConstsWaysWrongFalsely : Prop := constsWaysRow.holds Try.pinned (OpenSpec.ofChange constsWaysWrong)

/- THE SECOND FORM. 'bulk': how many values and letters a reading holds, each counted each time it is reached (what is shared counts as often as it is met; a slice's spare places count too). A statement '..UptoSaid' is the law's where the arguments, and the package variables that the reading takes, are together of bulk at most 1048576: NARROWER than '..Said'. Prove '..Said' where nothing that the law and all that it calls make is longer than what came in: it says more and counts as full. Else prove '..UptoSaid'. A law counts once. -/
mutual
def uptoBulk {H : Type} : DataW H → Nat
  | .lit (.string bytes) => bytes.length + 1
  | .lit _ => 1
  | .nil => 1
  | .ptr d => uptoBulk d + 1
  | .slice elems spare => uptoBulkAll elems + uptoBulkAll spare + 1
  | .agg parts => uptoBulkAll parts + 1
  | .iface _ d => uptoBulk d + 1
  | .map entries => uptoBulkEntries entries + 1
  | .held _ => 1
def uptoBulkAll {H : Type} : List (DataW H) → Nat
  | [] => 0
  | d :: r => uptoBulk d + uptoBulkAll r
def uptoBulkEntries {H : Type} : List (Lit × DataW H) → Nat
  | [] => 0
  | x :: r => uptoBulkEntry x + uptoBulkEntries r
def uptoBulkEntry {H : Type} : Lit × DataW H → Nat
  | (.string bytes, d) => bytes.length + uptoBulk d + 1
  | (_, d) => uptoBulk d + 1
 end
def uptoSmall : (H : Type) → List (DataW H) → Bool := fun _ ds => decide (uptoBulkAll ds ≤ 1048576)
def OpenSpec.upto (s : _root_.Go.ChangeSpec) : _root_.Go.OpenSpec := { _root_.Go.OpenSpec.ofChange s with cond := some uptoSmall }

/-- 'silkwormlaw06.ConstsScopes', WHERE WHAT IT READS IS OF BULK AT MOST 1048576: true; the input reads as it did. -/
def constsScopesUptoRow : OpenClaim := { program := "ytbpjgfemopakcaa", sum := "df015f34609b5caaaf9641f5ccc62e9fd3fc66d404aebc0262f7c870cc23a68f", func := "silkworm/silkwormlaw06.ConstsScopes", spec := "constsScopes", inPlace := ["maps.clone"], unfollowed := true, recurses := true, apart := false, narrowed := true }
def ConstsScopesUptoSaid : Prop := constsScopesUptoRow.holds Try.pinned (OpenSpec.upto constsScopesSpec)

/-- 'silkwormlaw06.ConstsNames', WHERE WHAT IT READS IS OF BULK AT MOST 1048576: true; the input reads as it did. -/
def constsNamesUptoRow : OpenClaim := { program := "ytbpjgfemopakcaa", sum := "df015f34609b5caaaf9641f5ccc62e9fd3fc66d404aebc0262f7c870cc23a68f", func := "silkworm/silkwormlaw06.ConstsNames", spec := "constsNames", unfollowed := true, recurses := true, loops := true, apart := false, narrowed := true }
def ConstsNamesUptoSaid : Prop := constsNamesUptoRow.holds Try.pinned (OpenSpec.upto constsNamesSpec)

/-- 'silkwormlaw06.ConstsNobody', WHERE WHAT IT READS IS OF BULK AT MOST 1048576: true; the input reads as it did. -/
def constsNobodyUptoRow : OpenClaim := { program := "ytbpjgfemopakcaa", sum := "df015f34609b5caaaf9641f5ccc62e9fd3fc66d404aebc0262f7c870cc23a68f", func := "silkworm/silkwormlaw06.ConstsNobody", spec := "constsNobody", inPlace := ["maps.clone"], unfollowed := true, recurses := true, apart := false, narrowed := true }
def ConstsNobodyUptoSaid : Prop := constsNobodyUptoRow.holds Try.pinned (OpenSpec.upto constsNobodySpec)

/-- 'silkwormlaw06.ConstsSums', WHERE WHAT IT READS IS OF BULK AT MOST 1048576: true; the input reads as it did. -/
def constsSumsUptoRow : OpenClaim := { program := "ytbpjgfemopakcaa", sum := "df015f34609b5caaaf9641f5ccc62e9fd3fc66d404aebc0262f7c870cc23a68f", func := "silkworm/silkwormlaw06.ConstsSums", spec := "constsSums", unfollowed := true, recurses := true, apart := false, narrowed := true }
def ConstsSumsUptoSaid : Prop := constsSumsUptoRow.holds Try.pinned (OpenSpec.upto constsSumsSpec)

/-- 'silkwormlaw06.ConstsWays', WHERE WHAT IT READS IS OF BULK AT MOST 1048576: true; the input reads as it did. -/
def constsWaysUptoRow : OpenClaim := { program := "ytbpjgfemopakcaa", sum := "df015f34609b5caaaf9641f5ccc62e9fd3fc66d404aebc0262f7c870cc23a68f", func := "silkworm/silkwormlaw06.ConstsWays", spec := "constsWays", unfollowed := true, recurses := true, loops := true, apart := false, narrowed := true }
def ConstsWaysUptoSaid : Prop := constsWaysUptoRow.holds Try.pinned (OpenSpec.upto constsWaysSpec)

end Rows
end Go.Proofs.Ytbpjgfemopakcaa
