/- Layer 3 of the program: giving up; which words are directives. -/
import Derived.Test.YteohmemifogdlaaGX
import Derived.Test.YteohmemifogdlaaGM
import Derived.Maps.OwnSet
import Derived.Maps.AppendAt
import Derived.Recover
import Derived.Defers
namespace Go.Proofs.Yteohmemifogdlaa
open Go.RowKit Lg
set_option linter.unusedVariables false
set_option linter.unusedSimpArgs false

/-- a run is given up -/
def pnc (p c : Int) : List PanicEntry := [{ v := .iface 31 (.agg #[.int .i64 p, .int .i64 c]), recovered := false }]
set_option maxHeartbeats 400000 in
theorem giveUp_c (p c : Int) (w : World) : Calls Try.prog 19 #[.int .i64 p, .int .i64 c] w fun e w' => e = .panicked (pnc p c) ∧ w' = w := by
  go_enter Try.func19, Try.ntmps19
  go_wp2
  exact ⟨rfl, rfl, rfl⟩
theorem splB_iff (x : ByteArray) : splB (L x) = (x.toList == [105, 102, 100, 101, 102] || x.toList == [105, 102, 110, 100, 101, 102] || x.toList == [101, 108, 115, 101] || x.toList == [101, 110, 100, 105, 102]) := by rw [toL]; rfl
set_option maxHeartbeats 400000 in
theorem splits_c (x : ByteArray) (w : World) : Calls Try.prog 25 #[.string x] w fun e w' => e = .returned (.bool (splB (L x))) ∧ w' = w := by
  rw [splB_iff]
  cases h1 : (x.toList == [105, 102, 100, 101, 102]) <;> cases h2 : (x.toList == [105, 102, 110, 100, 101, 102]) <;> cases h3 : (x.toList == [101, 108, 115, 101]) <;> cases h4 : (x.toList == [101, 110, 100, 105, 102])
  all_goals
    go_enter Try.func25, Try.ntmps25
    go_wp2
    go_ret
    exact ⟨rfl, rfl⟩
theorem dirB_iff (x : ByteArray) : dirB (L x) = (splB (L x) || x.toList == [100, 101, 102, 105, 110, 101] || x.toList == [117, 110, 100, 101, 102]) := by rw [toL]; rfl
set_option maxHeartbeats 400000 in
theorem directs_c (x : ByteArray) (w : World) : Calls Try.prog 44 #[.string x] w fun e w' => e = .returned (.bool (dirB (L x))) ∧ w' = w := by
  rw [dirB_iff]
  have HS := fun w => splits_c x w
  cases h0 : splB (L x) <;> cases h1 : (x.toList == [100, 101, 102, 105, 110, 101]) <;> cases h2 : (x.toList == [117, 110, 100, 101, 102])
  all_goals
    rw [h0] at HS
    go_enter Try.func44, Try.ntmps44
    go_wp2_with (first | (go_at_call 25; refine (HS _).mono ?_; rintro e w' ⟨rfl, hw⟩; have hw2 := hw.symm; subst hw2))
    go_ret
    exact ⟨rfl, rfl⟩
end Go.Proofs.Yteohmemifogdlaa
