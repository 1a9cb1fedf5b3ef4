/- The leaves of layer 1: place, width, known, vector. -/
import Derived.Test.YtpdcmehjndhcjaaProg
import Derived.Test.YtpdcmehjndhcjaaGM
import Derived.WalkKit
import Derived.WalkLawsBesides
import Derived.WalkSpells
import Derived.Deep.QuietTactic
import Derived.BigQuiet
namespace Go.Proofs.Ytpdcmehjndhcjaa
open Go.RowKit Lg
set_option linter.unusedVariables false

theorem ret_int {k : IntKind} {a b : Int} (h : a = b) : Ending.returned (.int k a) = .returned (.int k b) := by rw [h]
theorem ret_bool {a b : Bool} (h : a = b) : Ending.returned (.bool a) = .returned (.bool b) := by rw [h]
theorem ret_str {a b : ByteArray} (h : a = b) : Ending.returned (.string a) = .returned (.string b) := by rw [h]

def widB (n : Int) : Bool := decide (1 ≤ n ∧ n ≤ 256)
set_option maxHeartbeats 400000 in
theorem width_c (n : Int) (w : World) : Calls Try.prog 42 #[.int .i64 n] w fun e w' => e = .returned (.bool (widB n)) ∧ w' = w := by
  go_enter Try.func42, Try.ntmps42
  go_wp2
  all_goals (go_ret; exact ⟨ret_bool (by simp [widB, *] <;> omega), rfl⟩)

theorem vec_of_all {s : ByteArray} (h : (L s).all bitB = true) : vec (L s) = decide (1 ≤ s.size ∧ s.size ≤ 256) := by unfold vec; rw [h, len_L]; simp
theorem vec_no_all {s : ByteArray} (h : (L s).all bitB = false) : vec (L s) = false := by unfold vec; rw [h]; simp
theorem vec_no_len {s : ByteArray} (h : ¬ (1 ≤ s.size ∧ s.size ≤ 256)) : vec (L s) = false := by unfold vec; rw [len_L]; simp [h]

set_option maxHeartbeats 400000 in
theorem may_c (s : ByteArray) (w : World) (hs : s.size ≤ maxLen) : Calls Try.prog 30 #[.string s] w fun e w' => e = .returned (.bool (vec (L s))) ∧ w' = w := by
  unfold maxLen at hs
  go_enter Try.func30, Try.ntmps30
  go_wp2
  go_loop [3] (fun i => ∃ k : Nat, k ≤ s.size ∧ i = .int .i64 k ∧ Hid (((L s).take k).all bitB = true)) (fun i => s.size - (intOf i).toNat)
  case atStart => exact ⟨0, Nat.zero_le _, rfl, by simp [Hid]⟩
  case round =>
    obtain ⟨k, hk, rfl, hh⟩ := hrel
    go_wp2
    all_goals first
      | (go_round
         case rel => exact ⟨k + 1, by omega, by go_num, all_snoc s k (by assumption) hh.out (by rw [bitB_iff]; simp_all <;> omega)⟩
         case measure => simp [intOf]; omega)
      | (go_ret; exact ⟨ret_bool (vec_no_all (all_false s k (by assumption) (by rw [bitB_iff]; simp_all))).symm, rfl⟩)
      | (go_ret; exact ⟨ret_bool (by have := hh.out; rw [take_all s k (by omega)] at this; rw [vec_of_all this, Bool.eq_iff_iff]; simp; omega), rfl⟩)

set_option maxHeartbeats 400000 in
theorem vector_c (s : ByteArray) (w : World) (hs : s.size ≤ maxLen) : Calls Try.prog 41 #[.string s] w fun e w' => e = .returned (.bool (vec (L s))) ∧ w' = w := by
  unfold maxLen at hs
  by_cases hw : 1 ≤ s.size ∧ s.size ≤ 256
  · have hwB : widB s.size = true := by unfold widB; simp; omega
    go_enter Try.func41, Try.ntmps41
    go_wp2_with (go_at_call 42; refine (width_c _ _).mono ?_; rintro e w' ⟨rfl, rfl⟩)
    go_loop [10] (fun i => ∃ k : Nat, k ≤ s.size ∧ i = .int .i64 k ∧ Hid (((L s).take k).all bitB = true)) (fun i => s.size - (intOf i).toNat)
    case atStart => exact ⟨0, Nat.zero_le _, rfl, by simp [Hid]⟩
    case round =>
      obtain ⟨k, hk, rfl, hh⟩ := hrel
      go_wp2
      all_goals first
        | (go_round
           case rel => exact ⟨k + 1, by omega, by go_num, all_snoc s k (by assumption) hh.out (by rw [bitB_iff]; simp_all <;> omega)⟩
           case measure => simp [intOf]; omega)
        | (go_ret; exact ⟨ret_bool (vec_no_all (all_false s k (by assumption) (by rw [bitB_iff]; simp_all))).symm, rfl⟩)
        | (go_ret; exact ⟨ret_bool (by have := hh.out; rw [take_all s k (by omega)] at this; rw [vec_of_all this]; simp [hw]), rfl⟩)
  · have hwB : widB s.size = false := by unfold widB; simp; omega
    go_enter Try.func41, Try.ntmps41
    go_wp2_with (go_at_call 42; refine (width_c _ _).mono ?_; rintro e w' ⟨rfl, rfl⟩)
    go_ret
    exact ⟨ret_bool (vec_no_len hw).symm, rfl⟩
end Go.Proofs.Ytpdcmehjndhcjaa
