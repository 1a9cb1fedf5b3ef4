/- Layer 2, the reference: tokens, and reasons, held against one another. -/
import Derived.Test.YthdhmlojihpfkaaGreatGX
namespace Go.Proofs.YthdhmlojihpfkaaGreat
open Go.RowKit Lg
set_option linter.unusedVariables false
set_option linter.unusedSimpArgs false

set_option maxHeartbeats 1000000 in
theorem sameD_0 (w : World) : Calls Tryz.prog 12 #[.slice none 0 0, .slice none 0 0] w fun e w' => e = .returned (.bool true) ∧ Below w.heap.size w w' := by
  go_enter Tryz.func12, Tryz.ntmps12
  go_wp2
  go_loop [5] (fun iv => iv = .int .i64 0) (fun _ => 0)
  case atStart => rfl
  case round =>
    subst hrel
    go_wp2
    go_ret
    exact ⟨rfl, Below.refl _ _⟩

set_option maxHeartbeats 2000000 in
theorem sameD_1 (g1 g2 : Nat) (p : Nat) (c : Int) (w : World) (a0 : w.cell? ⟨g1, 0, none⟩ = some (.int .i64 p)) (a1 : w.cell? ⟨g1, 1, none⟩ = some (.int .i64 c)) (b0 : w.cell? ⟨g2, 0, none⟩ = some (.int .i64 p)) (b1 : w.cell? ⟨g2, 1, none⟩ = some (.int .i64 c)) :
    Calls Tryz.prog 12 #[.slice (some ⟨g1, 0, none⟩) 1 1, .slice (some ⟨g2, 0, none⟩) 1 1] w fun e w' => e = .returned (.bool true) ∧ Below w.heap.size w w' := by
  go_enter Tryz.func12, Tryz.ntmps12
  go_wp2
  go_loopw [5] (fun iv wr => ∃ i : Int, iv = .int .i64 i ∧ ((i = 0 ∧ wr = w) ∨ (i = 1 ∧ wr = w.drew))) (fun iv _ => 1 - (intOf iv).toNat)
  case atStart => exact ⟨0, rfl, Or.inl ⟨rfl, rfl⟩⟩
  case round =>
    obtain ⟨i, rfl, hw⟩ := hrel
    rcases hw with ⟨rfl, rfl⟩ | ⟨rfl, rfl⟩
    · go_wp2
      go_region
      all_goals go_wp2
      all_goals
        go_roundw
        case rel => exact ⟨1, rfl, Or.inr (by simp)⟩
        case measure => simp [intOf]
    · go_wp2
      go_ret
      exact ⟨rfl, belD⟩
end Go.Proofs.YthdhmlojihpfkaaGreat
