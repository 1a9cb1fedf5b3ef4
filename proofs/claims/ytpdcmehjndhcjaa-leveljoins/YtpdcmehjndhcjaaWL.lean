/- Layer 1: parts, bits, numbers, and when a clock rises. -/
import Derived.Test.YtpdcmehjndhcjaaWK
namespace Go.Proofs.Ytpdcmehjndhcjaa
open Go.RowKit Lg
set_option linter.unusedVariables false

/-- when a clock rises, of the two last bytes -/
def riseI (x y : Int) : Bool := if x = 48 then y != 48 else if x = 49 then false else y == 49
def lastI (l : List UInt8) : Int := ((l.getD (l.length - 1) 0).toNat : Int)
def riseB (a b : List UInt8) : Bool := vec a && (vec b && riseI (lastI a) (lastI b))
theorem lastI_at (s : ByteArray) (i : Nat) (hi : s.size = i + 1) (h : i < s.size) : lastI (L s) = ((s[i].toNat : Nat) : Int) := by
  unfold lastI; rw [len_L, show s.size - 1 = i by omega, at_getD]
theorem rise_of {a b : List UInt8} (h : (vec a && vec b) = true) : riseB a b = riseI (lastI a) (lastI b) := by
  simp only [Bool.and_eq_true] at h; unfold riseB; rw [h.1, h.2]; rfl
theorem rise_no {a b : List UInt8} (h : (vec a && vec b) = false) : riseB a b = false := by
  unfold riseB; cases h1 : vec a <;> cases h2 : vec b <;> simp_all

end Go.Proofs.Ytpdcmehjndhcjaa
