/- Layer 20: infinity by the library; what min and max tell. -/
import Derived.Test.YtiecneefommdlaaFV
namespace Go.Proofs.Ytiecneefommdlaa
set_option maxRecDepth 100000
open Go.RowKit Lg Nl Go.Maps Wf Fl
set_option linter.unusedVariables false
set_option linter.unusedSimpArgs false

theorem run_frombits (n : Int) (w : World) : (callFunc 49 #[.int .u64 n]).run Try.prog w = .ok (.value (.float .f64 n.toNat)) w := by
  rw [run_callFunc_extern Try.func49 (by kernel_rfl) (by kernel_rfl) (by kernel_rfl) (e := Extern.MathFloatBits.float64frombits) (by kernel_rfl)]
  rfl
theorem inf20 (s : Bool) (w : World) : Calls Try.prog 40 #[.int .i64 (if s then -1 else 1)] w fun e w' => e = .returned (.float .f64 (infW s)) ∧ w' = w := by
  have h1 := run_frombits 9218868437227405312
  have h2 := run_frombits 18442240474082181120
  cases s
  all_goals (
    simp only [Bool.false_eq_true, if_false, if_true]
    go_enter Try.func40, Try.ntmps40
    go_wp2
    go_ret
    exact ⟨rfl, rfl⟩)
theorem run_minF {P : Program} (ts : Array TypeId) (t : TypeId) {a x : Nat} (ha : Pw a) (hx : Pw x) (w : World) : (Builtin.min_ ts t #[.float .f64 a, .float .f64 x]).run P w = .ok (.float .f64 (if FloatKind.f64.format.order x a == some .lt then x else a)) w := by
  have h1 := ord_pos ha hx
  rw [ord_pos hx ha]
  rcases Nat.lt_trichotomy a x with h | h | h
  · rw [Nat.compare_eq_lt.2 h] at h1
    rw [Nat.compare_eq_gt.2 h]
    simp [Builtin.min_, Builtin.min2, h1]
  · subst h
    rw [Nat.compare_eq_eq.2 rfl] at h1
    rw [Nat.compare_eq_eq.2 rfl]
    simp [Builtin.min_, Builtin.min2, h1]
  · rw [Nat.compare_eq_gt.2 h] at h1
    rw [Nat.compare_eq_lt.2 h]
    simp [Builtin.min_, Builtin.min2, h1]
theorem run_maxF {P : Program} (ts : Array TypeId) (t : TypeId) {a x : Nat} (ha : a = infW true ∨ Pw a) (hx : Pw x) (w : World) : (Builtin.max_ ts t #[.float .f64 a, .float .f64 x]).run P w = .ok (.float .f64 (if FloatKind.f64.format.order x a == some .gt then x else a)) w := by
  rcases ha with rfl | ha
  · obtain ⟨h1, h2⟩ := ord_ninf hx
    rw [h1]
    simp [Builtin.max_, Builtin.max2, h2]
  have h1 := ord_pos ha hx
  rw [ord_pos hx ha]
  rcases Nat.lt_trichotomy a x with h | h | h
  · rw [Nat.compare_eq_lt.2 h] at h1
    rw [Nat.compare_eq_gt.2 h]
    simp [Builtin.max_, Builtin.max2, h1]
  · subst h
    rw [Nat.compare_eq_eq.2 rfl] at h1
    rw [Nat.compare_eq_eq.2 rfl]
    simp [Builtin.max_, Builtin.max2, h1]
  · rw [Nat.compare_eq_gt.2 h] at h1
    rw [Nat.compare_eq_lt.2 h]
    simp [Builtin.max_, Builtin.max2, h1]
end Go.Proofs.Ytiecneefommdlaa
