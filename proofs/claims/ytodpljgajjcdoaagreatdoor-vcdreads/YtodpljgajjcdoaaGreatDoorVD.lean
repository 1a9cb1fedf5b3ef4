/- Layer 18: all values at a time (the document's). -/
import Derived.Test.YtodpljgajjcdoaaGreatDoorVC
namespace Go.Proofs.YtodpljgajjcdoaaGreatDoor
set_option maxRecDepth 100000
open Go.RowKit Lg Nl Go.Maps Wf
set_option linter.unusedVariables false
set_option linter.unusedSimpArgs false

def putL (t : Int) (now : List ByteArray) (c : Ch) : List ByteArray := if c.t ≤ t then now.set c.n.toNat c.v else now
/-- the values at a time -/
def atL (t : Int) (now : List ByteArray) (l : List Ch) : List ByteArray := l.foldl (putL t) now
theorem at_take (t : Int) (now : List ByteArray) (l : List Ch) (k : Nat) (hk : k < l.length) : atL t now (l.take (k + 1)) = putL t (atL t now (l.take k)) (cA l k) := by
  unfold atL
  rw [List.take_add_one, List.getElem?_eq_getElem hk, List.foldl_append, cA_at hk]
  rfl
theorem at_len (t : Int) (l : List Ch) : ∀ now : List ByteArray, (atL t now l).length = now.length := by
  unfold atL
  induction l with
  | nil => intro now; rfl
  | cons c cs ih => intro now; rw [List.foldl_cons, ih]; unfold putL; split <;> simp
end Go.Proofs.YtodpljgajjcdoaaGreatDoor
