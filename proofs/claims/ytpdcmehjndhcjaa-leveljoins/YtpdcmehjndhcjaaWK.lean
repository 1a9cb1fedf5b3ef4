/- Layer 1: what is called from outside, more; and that the program is awake. -/
import Derived.Test.YtpdcmehjndhcjaaWJ
namespace Go.Proofs.Ytpdcmehjndhcjaa
open Go.RowKit Lg
set_option linter.unusedVariables false

def chkE (a : List UInt8) : Int := if vec a then 0 else 10
set_option maxHeartbeats 400000 in
theorem Check_c (s : ByteArray) (w : World) (hs1 : s.size ≤ maxLen) : Calls Try.prog 37 #[.string s] w fun e w' => e = .returned (.int .i64 (chkE (L s))) ∧ Below w.heap.size w w' := by
  by_cases h3 : vec (L s) = true
  · go_enter Try.func37, Try.ntmps37
    go_wp2_with (go_at_call 39; refine (vectors1_c s _ hs1).mono ?_; rintro e w1 ⟨rfl, rfl⟩)
    go_ret
    exact ⟨ret_int (by unfold chkE; rw [if_pos h3]), belA (Below.refl _ _) _⟩
  · have h3' : vec (L s) = false := by simpa using h3
    go_enter Try.func37, Try.ntmps37
    go_wp2_with (go_at_call 39; refine (vectors1_c s _ hs1).mono ?_; rintro e w1 ⟨rfl, rfl⟩)
    go_ret
    exact ⟨ret_int (by unfold chkE; rw [if_neg h3]), belA (Below.refl _ _) _⟩

def fitA (a : List UInt8) (n : Int) : List UInt8 := if n < 1 ∨ 256 < n then [] else if vec a then fit a n.toNat else []
def fitE (a : List UInt8) (n : Int) : Int := if n < 1 ∨ 256 < n then 1 else if vec a then 0 else 10
end Go.Proofs.Ytpdcmehjndhcjaa
