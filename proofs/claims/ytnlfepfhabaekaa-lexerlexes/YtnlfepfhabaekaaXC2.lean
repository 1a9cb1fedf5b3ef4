/- Layer 2 of the program: digits, one by one. -/
import Derived.Test.YtnlfepfhabaekaaXC
namespace Go.Proofs.Ytnlfepfhabaekaa
open Go.RowKit Lg
set_option linter.unusedVariables false
set_option linter.unusedSimpArgs false

set_option maxHeartbeats 4000000 in
theorem digitBits_n (c : UInt8) (k : Nat) (w : World) (hv : hexV c = none) (hx : ¬ c = 120) (hz : ¬ c = 122) :
    Calls Try.prog 81 #[.int .u8 c.toNat, .int .i64 k] w fun e w' => e = .returned (.tuple #[.string (S (oS (dgt k c))), .bool (oB (dgt k c))]) ∧ Below w.heap.size w w' := by
  have HD : Hid (dgt k c = none) := by unfold dgt; rw [if_neg (by simp [hx, hz]), hv]; exact rfl
  have e1 : (((c.toNat : Nat) : Int) == 120) = false := by rw [beq_eq_false_iff_ne]; intro h; exact hx ((toI c 120).1 h)
  have e2 : (((c.toNat : Nat) : Int) == 122) = false := by rw [beq_eq_false_iff_ne]; intro h; exact hz ((toI c 122).1 h)
  obtain ⟨h1, h2, h3⟩ := hex_none hv
  clear hv hx hz
  rcases h2 with h2 | h2 <;> rcases h3 with h3 | h3
  all_goals
    go_enter Try.func81, Try.ntmps81
    go_wp2_with (first | (go_at_call 60; refine (isDigit_c _ _).mono ?_; rintro e w' ⟨rfl, rfl⟩))
    all_goals (go_ret2; exact ⟨tupSB (by rw [HD.out]; exact ⟨rfl, rfl⟩), Below.refl _ _⟩)

end Go.Proofs.Ytnlfepfhabaekaa
