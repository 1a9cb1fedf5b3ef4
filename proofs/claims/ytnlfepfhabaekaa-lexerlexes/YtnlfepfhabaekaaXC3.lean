/- Layer 2 of the program: digits, one by one. -/
import Derived.Test.YtnlfepfhabaekaaXC2
namespace Go.Proofs.Ytnlfepfhabaekaa
open Go.RowKit Lg
set_option linter.unusedVariables false
set_option linter.unusedSimpArgs false

set_option maxHeartbeats 8000000 in
theorem digitBits_s (c : UInt8) (k n : Nat) (w : World) (hk : k = 1 ∨ k = 4) (hv : hexV c = some n) :
    Calls Try.prog 81 #[.int .u8 c.toNat, .int .i64 k] w fun e w' => e = .returned (.tuple #[.string (S (oS (dgt k c))), .bool (oB (dgt k c))]) ∧ Below w.heap.size w w' := by
  have hc := hex_some hv
  clear hv
  rcases hc with rfl | rfl | rfl | rfl | rfl | rfl | rfl | rfl | rfl | rfl | rfl | rfl | rfl | rfl | rfl | rfl | rfl | rfl | rfl | rfl | rfl | rfl <;> rcases hk with rfl | rfl
  all_goals
     go_enter Try.func81, Try.ntmps81
     go_wp2_with (first | (go_at_call 60; refine (isDigit_z _ _).mono ?_; rintro e w' ⟨rfl, rfl⟩) | (go_at_call 51; refine (Of_c _ _ _ (by decide)).mono ?_; rintro e w' ⟨rfl, hb⟩))
     go_ret2
     exact ⟨tupSB ⟨by first | (rw [L_S]; decide) | decide, by decide⟩, by first | assumption | exact Below.refl _ _⟩

theorem digitBits_c (c : UInt8) (k : Nat) (w : World) (hk : k = 1 ∨ k = 4) :
    Calls Try.prog 81 #[.int .u8 c.toNat, .int .i64 k] w fun e w' => e = .returned (.tuple #[.string (S (oS (dgt k c))), .bool (oB (dgt k c))]) ∧ Below w.heap.size w w' := by
  by_cases hx : c = 120 ∨ c = 122
  · exact digitBits_x c k w (by omega) hx
  · cases hv : hexV c with
    | none => exact digitBits_n c k w hv (fun h => hx (Or.inl h)) (fun h => hx (Or.inr h))
    | some n => exact digitBits_s c k n w hk hv
end Go.Proofs.Ytnlfepfhabaekaa
