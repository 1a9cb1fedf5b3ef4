/- Layer 18: the program's names, fits, rises. -/
import Derived.Test.YtodpljgajjcdoaaGreatDoorVA
import Derived.Test.YtodpljgajjcdoaaGreatDoorGW
namespace Go.Proofs.YtodpljgajjcdoaaGreatDoor
set_option maxRecDepth 100000
open Go.RowKit Lg Nl Go.Maps Wf
set_option linter.unusedVariables false
set_option linter.unusedSimpArgs false

set_option maxHeartbeats 400000 in
theorem names_c (s : ByteArray) (w : World) (hs : s.size ≤ maxLen) : Calls Tryz.prog 47 #[.string s] w fun e w' => e = .returned (.bool (nameB s)) ∧ w' = w := by
  unfold maxLen at hs
  by_cases h2 : s.size ≤ 256
  · have h2' : decide ((256 : Int) < (s.size : Int)) = false := decide_eq_false (by omega)
    have H2 : Hid (s.size ≤ 256) := h2
    clear h2
    go_enter Tryz.func47, Tryz.ntmps47
    go_wp2
    go_loop [9] (fun i => ∃ k : Nat, k ≤ s.size ∧ i = .int .i64 k ∧ Hid (((L s).take k).all nmB = true)) (fun i => s.size - (intOf i).toNat)
    case atStart => exact ⟨0, Nat.zero_le _, rfl, by simp [Hid]⟩
    case round =>
      obtain ⟨k, hk, rfl, hh⟩ := hrel
      go_wp2
      all_goals first
        | (go_round
           case rel => exact ⟨k + 1, by omega, by go_num, all_snoc s k (by assumption) hh.out (by unfold nmB; exact decide_eq_true (by omega))⟩
           case measure => simp [intOf]; omega)
        | (go_ret; exact ⟨ret_bool (by unfold nameB; rw [all_false s k (by assumption) (by unfold nmB; exact decide_eq_false (by omega))]; rfl), rfl⟩)
        | (go_ret; exact ⟨ret_bool (by have h := hh.out; rw [take_all s k (by omega)] at h; unfold nameB; rw [h]; exact (decide_eq_true H2.out).symm), rfl⟩)
  · have h2' : decide ((256 : Int) < (s.size : Int)) = true := decide_eq_true (by omega)
    have H2 : Hid (false = nameB s) := by unfold nameB; rw [decide_eq_false h2, Bool.and_false]; rfl
    clear h2
    go_enter Tryz.func47, Tryz.ntmps47
    go_wp2
    go_ret
    exact ⟨ret_bool H2.out, rfl⟩
/-- a vector so wide -/
def fitB (s : ByteArray) (z : Int) : Bool := vec (L s) && decide ((s.size : Int) = z)
set_option maxHeartbeats 400000 in
theorem fits_c (s : ByteArray) (z : Int) (w : World) (hs : s.size ≤ maxLen) : Calls Tryz.prog 48 #[.string s, .int .i64 z] w fun e w' => e = .returned (.bool (fitB s z)) ∧ Below w.heap.size w w' := by
  have HC : Hid (∀ W, Calls Tryz.prog 58 #[.string s] W fun e w' => e = .returned (.int .i64 (chkE (L s))) ∧ Below W.heap.size W w') := fun W => Check_c s W hs
  by_cases h1 : (s.size : Int) = z
  · have h1' : ((s.size : Int) == z) = true := by rw [beq_iff_eq]; exact h1
    cases h3 : vec (L s)
    · have HY : Hid (false = fitB s z) := by unfold fitB; rw [h3]; rfl
      have HC2 : Hid (∀ W, Calls Tryz.prog 58 #[.string s] W fun e w' => e = .returned (.int .i64 10) ∧ Below W.heap.size W w') := by
        have := HC.out; rw [show chkE (L s) = 10 from by unfold chkE; rw [h3]; rfl] at this; exact this
      clear h1 h3 HC
      go_enter Tryz.func48, Tryz.ntmps48
      go_wp2_with (go_at_call 58; refine (HC2.out _).mono ?_; rintro e w1 ⟨rfl, hb1⟩)
      go_ret
      exact ⟨ret_bool HY.out, hb1⟩
    · have HY : Hid (true = fitB s z) := by unfold fitB; rw [h3, decide_eq_true h1]; rfl
      have HC2 : Hid (∀ W, Calls Tryz.prog 58 #[.string s] W fun e w' => e = .returned (.int .i64 0) ∧ Below W.heap.size W w') := by
        have := HC.out; rw [show chkE (L s) = 0 from by unfold chkE; rw [h3]; rfl] at this; exact this
      clear h1 h3 HC
      go_enter Tryz.func48, Tryz.ntmps48
      go_wp2_with (go_at_call 58; refine (HC2.out _).mono ?_; rintro e w1 ⟨rfl, hb1⟩)
      go_ret
      exact ⟨ret_bool HY.out, hb1⟩
  · have h1' : ((s.size : Int) == z) = false := by rw [beq_eq_false_iff_ne]; exact h1
    have HY : Hid (false = fitB s z) := by unfold fitB; rw [decide_eq_false h1, Bool.and_false]; rfl
    clear h1
    go_enter Tryz.func48, Tryz.ntmps48
    go_wp2_with (fail)
    go_ret
    exact ⟨ret_bool HY.out, Below.refl _ _⟩
set_option maxHeartbeats 400000 in
theorem rises_c (a b : Ch) (w : World) : Calls Tryz.prog 50 #[.agg #[.int .i64 a.t, .int .i64 a.n, .string a.v], .agg #[.int .i64 b.t, .int .i64 b.n, .string b.v]] w fun e w' => e = .returned (.bool (ahB a b)) ∧ Below w.heap.size w w' := by
  by_cases h1 : a.t < b.t
  · have h1' : decide (a.t < b.t) = true := decide_eq_true h1
    have H3 : Hid (true = ahB a b) := (decide_eq_true (Or.inl h1)).symm
    clear h1
    go_enter Tryz.func50, Tryz.ntmps50
    go_wp2
    go_ret
    exact ⟨ret_bool H3.out, belA (belA (Below.refl _ _) _) _⟩
  · have h1' : decide (a.t < b.t) = false := decide_eq_false h1
    by_cases h2 : a.t = b.t
    · have h2' : (a.t == b.t) = true := by rw [beq_iff_eq]; exact h2
      have H3 : Hid (decide (a.n < b.n) = ahB a b) := by
        unfold ahB
        exact decide_eq_decide.2 ⟨fun h => Or.inr ⟨h2, h⟩, fun h => h.elim (fun h => absurd h h1) And.right⟩
      clear h1 h2
      go_enter Tryz.func50, Tryz.ntmps50
      go_wp2
      go_ret
      exact ⟨ret_bool H3.out, belA (belA (Below.refl _ _) _) _⟩
    · have h2' : (a.t == b.t) = false := by rw [beq_eq_false_iff_ne]; exact h2
      have H3 : Hid (false = ahB a b) := (decide_eq_false fun h => h.elim h1 fun h => h2 h.1).symm
      clear h1 h2
      go_enter Tryz.func50, Tryz.ntmps50
      go_wp2
      go_ret
      exact ⟨ret_bool H3.out, belA (belA (Below.refl _ _) _) _⟩
end Go.Proofs.YtodpljgajjcdoaaGreatDoor
