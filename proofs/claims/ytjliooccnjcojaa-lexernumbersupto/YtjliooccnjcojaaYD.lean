/- Layer 2: the vector of any number's text. -/
import Derived.Test.YtjliooccnjcojaaYC
namespace Go.Proofs.Ytjliooccnjcojaa
open Go.RowKit Lg
set_option linter.unusedVariables false
set_option linter.unusedSimpArgs false

set_option maxHeartbeats 2000000 in
theorem LexerNumbers_c (s : ByteArray) (m : Int) (w : World) (hs : s.size ≤ 2000000) (hm : w.cell? ⟨0, 0, none⟩ = some (.int .i64 m)) (h0 : 0 < w.heap.size) :
    Calls Try.prog 4 #[.string s] w fun e w' => e = .returned (.bool true) ∧ Below w.heap.size w w' := by
  have hsm : s.size ≤ maxLen := by unfold maxLen; omega
  obtain ⟨v, hv⟩ : ∃ v, v = S (numS (L s)) := ⟨_, rfl⟩
  obtain ⟨b, hb⟩ : ∃ b, b = numP (L s) := ⟨_, rfl⟩
  obtain ⟨n, hn⟩ : ∃ n, n = numE2 (L s) := ⟨_, rfl⟩
  have HP := fun w => Number_c s w hsm
  have HR := fun w => rNumber_c s w hs
  rw [← hv, ← hb, ← hn] at HP HR
  clear hv hb hn
  have run : Below w.heap.size w w := Below.refl _ _
  cases b
  all_goals
    go_enter Try.func4, Try.ntmps4
    go_wp2_with (first
      | (go_at_call 14; refine (HP _).mono ?_; rintro e w1 ⟨rfl, hb1⟩; replace run := bel run hb1)
      | (go_at_call 15; refine (HR _).mono ?_; rintro e w1 ⟨rfl, hb1⟩; replace run := bel run hb1)
      | (go_at_call 13; refine (awake_c m _ ((run.cell (p := ⟨0, 0, none⟩) h0).trans hm) (Nat.lt_of_lt_of_le h0 run.size)).mono ?_; rintro e w3 ⟨rfl, hb3⟩; replace run := bel run hb3))
    go_ret
    exact ⟨rfl, run⟩
end Go.Proofs.Ytjliooccnjcojaa
