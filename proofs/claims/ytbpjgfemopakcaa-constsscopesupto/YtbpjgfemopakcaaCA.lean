/- Layer 6 of the program: the operators of two numbers, as far as sums, shifts and comparisons go. -/
import Derived.Test.YtbpjgfemopakcaaWM
import Derived.Defers
import Derived.Recover
import Derived.Maps.OwnSet
import Derived.StringKeys
namespace Go.Proofs.Ytbpjgfemopakcaa
open Go.RowKit Lg
set_option linter.unusedVariables false
set_option linter.unusedSimpArgs false

def fitB (n : Int) : Bool := decide (-2147483647 ≤ n ∧ n ≤ 2147483647)
set_option maxHeartbeats 400000 in
theorem kFits_c (n : Int) (w : World) : Calls Try.prog 23 #[.int .i64 n] w fun e w' => e = .returned (.bool (fitB n)) ∧ w' = w := by
  go_enter Try.func23, Try.ntmps23
  go_wp2
  all_goals (go_ret; exact ⟨ret_bool (by simp [fitB, *] <;> omega), rfl⟩)
set_option maxHeartbeats 400000 in
theorem kParts2_c (op : Int) (h1 : 13 ≤ op) (h2 : op ≤ 27) (w : World) : Calls Try.prog 38 #[.int .i64 op] w fun e w' => e = .returned (.int .i64 2) ∧ w' = w := by
  have e9 : (op == 9) = false := by rw [beq_eq_false_iff_ne]; omega
  have e8 : (op == 8) = false := by rw [beq_eq_false_iff_ne]; omega
  go_enter Try.func38, Try.ntmps38
  go_wp2
  go_ret
  exact ⟨rfl, rfl⟩
/-- a comparison: 17 less, 21 as much -/
def hoB (op a b : Int) : Bool := if op = 17 then decide (a < b) else decide (a = b)
set_option maxHeartbeats 400000 in
theorem kHolds_c (op a b : Int) (ho : op = 17 ∨ op = 21) (w : World) : Calls Try.prog 45 #[.int .i64 op, .int .i64 a, .int .i64 b] w fun e w' => e = .returned (.bool (hoB op a b)) ∧ w' = w := by
  rcases ho with rfl | rfl
  all_goals
    go_enter Try.func45, Try.ntmps45
    go_wp2
    all_goals (go_ret; exact ⟨ret_bool (by unfold hoB; first | rfl | (simp [*] <;> omega) | (simp [*]; rfl) | skip), rfl⟩)
/-- what an operator comes to: 13 a sum, 14 a difference, 15 a shift, 17, 21 comparisons -/
def cmV (op a b : Int) : Int := if op = 13 then a + b else if op = 14 then a - b else if op = 15 then a * 2 ^ b.toNat else if hoB op a b then 1 else 0
def opB (op a b : Int) : Prop := op = 13 ∨ op = 14 ∨ (op = 15 ∧ 0 ≤ b ∧ b ≤ 7) ∨ op = 17 ∨ op = 21
theorem shl7 {a b : Int} (ha : -2147483647 ≤ a) (ha2 : a ≤ 2147483647) (hb : 0 ≤ b) (hb2 : b ≤ 7) : IntKind.i64.wrap (a * 2 ^ b.toNat) = a * 2 ^ b.toNat := by
  have h : (2 : Int) ^ b.toNat = 1 ∨ (2 : Int) ^ b.toNat = 2 ∨ (2 : Int) ^ b.toNat = 4 ∨ (2 : Int) ^ b.toNat = 8 ∨ (2 : Int) ^ b.toNat = 16 ∨ (2 : Int) ^ b.toNat = 32 ∨ (2 : Int) ^ b.toNat = 64 ∨ (2 : Int) ^ b.toNat = 128 := by
    have h : b = 0 ∨ b = 1 ∨ b = 2 ∨ b = 3 ∨ b = 4 ∨ b = 5 ∨ b = 6 ∨ b = 7 := by omega
    rcases h with rfl | rfl | rfl | rfl | rfl | rfl | rfl | rfl <;> decide
  rcases h with h | h | h | h | h | h | h | h <;> (rw [h, IntKind.wrap_i64]; omega)
set_option maxHeartbeats 400000 in
theorem kShifted_c (a b : Int) (ha : -2147483647 ≤ a) (ha2 : a ≤ 2147483647) (hb : 0 ≤ b) (hb2 : b ≤ 7) (w : World) : Calls Try.prog 43 #[.int .i64 15, .int .i64 a, .int .i64 b] w fun e w' => e = .returned (.tuple #[.int .i64 (a * 2 ^ b.toNat), .bool true]) ∧ w' = w := by
  have hw := shl7 ha ha2 hb hb2
  have hb3 : b ≤ 31 := by omega
  have hw2 : wrap64 (a * 2 ^ b.toNat) = a * 2 ^ b.toNat := by unfold wrap64; exact (IntKind.wrap_i64 _).symm.trans hw
  clear hw
  go_enter Try.func43, Try.ntmps43
  go_wp2
  go_ret2
  exact ⟨congrArg (fun x => Ending.returned (.tuple #[.int .i64 x, .bool true])) hw2, rfl⟩
set_option maxHeartbeats 1000000 in
theorem kComes_c (op a b : Int) (ho : opB op a b) (ha : -2147483647 ≤ a) (ha2 : a ≤ 2147483647) (hb : -2147483647 ≤ b) (hb2 : b ≤ 2147483647) (w : World) :
    Calls Try.prog 39 #[.int .i64 op, .int .i64 a, .int .i64 b] w fun e w' => e = .returned (.tuple #[.int .i64 (cmV op a b), .bool true]) ∧ w' = w := by
  rcases ho with rfl | rfl | ⟨rfl, h1, h2⟩ | h
  · have e : cmV 13 a b = a + b := rfl
    rw [e]
    have hw : IntKind.i64.wrap (a + b) = a + b := by rw [IntKind.wrap_i64]; omega
    go_enter Try.func39, Try.ntmps39
    go_wp2
    go_ret2
    exact ⟨rfl, rfl⟩
  · have e : cmV 14 a b = a - b := rfl
    rw [e]
    have hw : IntKind.i64.wrap (a - b) = a - b := by rw [IntKind.wrap_i64]; omega
    go_enter Try.func39, Try.ntmps39
    go_wp2
    go_ret2
    exact ⟨rfl, rfl⟩
  · have e : cmV 15 a b = a * 2 ^ b.toNat := rfl
    rw [e]
    have HS := fun w => kShifted_c a b ha ha2 h1 h2 w
    obtain ⟨r, hr⟩ : ∃ r, r = a * 2 ^ b.toNat := ⟨_, rfl⟩
    rw [← hr] at HS ⊢
    clear hr
    go_enter Try.func39, Try.ntmps39
    go_wp2_with (first | (go_at_call 43; refine (HS _).mono ?_; rintro e w' ⟨rfl, hw⟩; have hw2 := hw.symm; subst hw2))
    go_ret2
    exact ⟨rfl, rfl⟩
  · have HS := fun w => kHolds_c op a b h w
    have e : cmV op a b = if hoB op a b then 1 else 0 := by rcases h with rfl | rfl <;> rfl
    rw [e]
    cases hh : hoB op a b with
    | true =>
      rw [hh] at HS
      clear hh e
      rcases h with rfl | rfl
      all_goals
        go_enter Try.func39, Try.ntmps39
        go_wp2_with (first | (go_at_call 45; refine (HS _).mono ?_; rintro e w' ⟨rfl, hw⟩; have hw2 := hw.symm; subst hw2))
        go_ret2
        exact ⟨rfl, rfl⟩
    | false =>
      rw [hh] at HS
      clear hh e
      rcases h with rfl | rfl
      all_goals
        go_enter Try.func39, Try.ntmps39
        go_wp2_with (first | (go_at_call 45; refine (HS _).mono ?_; rintro e w' ⟨rfl, hw⟩; have hw2 := hw.symm; subst hw2))
        go_ret2
        exact ⟨rfl, rfl⟩
end Go.Proofs.Ytbpjgfemopakcaa
