/- Layer 2, the reference: the bits of digits. -/
import Derived.Test.YthdhmlojihpfkaaGreatYB2
namespace Go.Proofs.YthdhmlojihpfkaaGreat
open Go.RowKit Lg
set_option linter.unusedVariables false
set_option linter.unusedSimpArgs false

set_option maxHeartbeats 4000000 in
theorem digits_o (c : UInt8) (s : ByteArray) (w : World) (hs : s.size ≤ maxLen) (h0 : s.size ≠ 0) (c1 : ¬ c = 100) (c2 : ¬ c = 98) (c3 : ¬ c = 104) : Calls Tryz.prog 62 #[.int .u8 c.toNat, .string s] w fun e w' => e = .returned (.string (S (digL c (L s)))) ∧ Below w.heap.size w w' := by
  unfold maxLen at hs
  have hne : ¬ L s = [] := by rw [empty_L]; exact h0
  have hemp : s.toList.isEmpty = false := by rw [toL, List.isEmpty_eq_false_iff]; exact hne
  have HK : Hid (digL c (L s) = []) := by unfold digL; rw [if_neg hne, if_neg c1, if_neg c2, if_neg c3]; exact rfl
  have e1 : (((c.toNat : Nat) : Int) == 100) = false := (cb c 100).trans (by simpa using c1)
  have e2 : (((c.toNat : Nat) : Int) == 98) = false := (cb c 98).trans (by simpa using c2)
  have e3 : (((c.toNat : Nat) : Int) == 104) = false := (cb c 104).trans (by simpa using c3)
  have f2 : (((c.toNat : Nat) : Int) != 98) = true := by show (!(((c.toNat : Nat) : Int) == 98)) = true; rw [e2]; rfl
  have f3 : (((c.toNat : Nat) : Int) != 104) = true := by show (!(((c.toNat : Nat) : Int) == 104)) = true; rw [e3]; rfl
  have hpos : 0 < s.size := by omega
  clear hne c1 c2 c3
  go_enter Tryz.func62, Tryz.ntmps62
  go_wp2
  go_loopw [7] (fun iv wr => iv = .int .i64 0 ∧ wr = w) (fun _ _ => 0)
  case atStart => exact ⟨rfl, rfl⟩
  case round =>
    obtain ⟨rfl, rfl⟩ := hrel
    cases hf : (S (oS (dgt 4 s[0]))).toList.isEmpty with
    | true =>
      go_wp2_with (first | (go_at_call 83; refine (four_c s[0] _).mono ?_; rintro e w1 ⟨rfl, hb⟩))
      go_ret
      exact ⟨ret_str (by rw [HK.out]; rfl), by assumption⟩
    | false =>
      go_wp2_with (first | (go_at_call 83; refine (four_c s[0] _).mono ?_; rintro e w1 ⟨rfl, hb⟩))
      go_ret
      exact ⟨ret_str (by rw [HK.out]; rfl), by assumption⟩

theorem digits_c (c : UInt8) (s : ByteArray) (w : World) (hs : s.size ≤ 2000000) : Calls Tryz.prog 62 #[.int .u8 c.toNat, .string s] w fun e w' => e = .returned (.string (S (digL c (L s)))) ∧ Below w.heap.size w w' := by
  have hm : s.size ≤ maxLen := by unfold maxLen; omega
  by_cases h0 : s.size = 0
  · exact digits_e c s w h0
  · by_cases c1 : c = 100
    · subst c1; exact digits_d s w hm h0
    · by_cases c2 : c = 98
      · subst c2; exact digits_b s w hs h0
      · by_cases c3 : c = 104
        · subst c3; exact digits_h s w hs h0
        · exact digits_o c s w hm h0 c1 c2 c3
end Go.Proofs.YthdhmlojihpfkaaGreat
