/- Layer 1: turned, numbers, sums. -/
import Derived.Test.YtbpjgfemopakcaaWD
import Derived.Test.YtbpjgfemopakcaaGM
import Derived.Laws.Bits128
namespace Go.Proofs.Ytbpjgfemopakcaa
open Go.RowKit Lg
set_option linter.unusedVariables false

set_option maxHeartbeats 400000 in
theorem upTo_c (s : ByteArray) (m : Nat) (w : World) (hs : s.size ≤ maxLen) (hm : 1 ≤ m) (hm2 : m ≤ 2147483648) : Calls Try.prog 42 #[.string s, .int .i64 m] w fun e w' => e = .returned (.int .i64 (upToN (L s) m)) ∧ w' = w := by
  unfold maxLen at hs
  go_enter Try.func42, Try.ntmps42
  go_wp2
  go_loop [5, 9] (fun nv i => ∃ k n : Nat, k ≤ s.size ∧ i = .int .i64 k ∧ nv = .int .i64 n ∧ n < m ∧ Hid (n = num ((L s).take k))) (fun _ i => s.size - (intOf i).toNat)
  case atStart => exact ⟨0, 0, Nat.zero_le _, rfl, rfl, by omega, rfl⟩
  case round =>
    obtain ⟨k, n, hk, rfl, rfl, hn, HN⟩ := hrel
    by_cases hlt : k < s.size
    · have hp2 : pn ((s[k].toNat : Nat) : Int) < 4 := pn_lt _
      have hstep : num ((L s).take (k + 1)) = 2 * n + pn ((s[k].toNat : Nat) : Int) := by rw [take_snoc s k hlt, num_snoc, ← HN.out, pn_plc]
      have hle := num_take_le (L s) (k + 1)
      rw [hstep] at hle
      have HS : Hid (num ((L s).take (k + 1)) = 2 * n + pn ((s[k].toNat : Nat) : Int)) := hstep
      have HL : Hid (2 * n + pn ((s[k].toNat : Nat) : Int) ≤ num (L s)) := hle
      clear hstep hle
      go_wp2_with (go_at_call 47; refine (place_c _ _).mono ?_; rintro e w' ⟨rfl, rfl⟩)
      all_goals first
        | (go_round
           case rel => exact ⟨k + 1, 2 * n + pn ((s[k].toNat : Nat) : Int), by omega, by go_num, by go_num, by omega, HS.out.symm⟩
           case measure => simp [intOf]; omega)
        | (go_ret; exact ⟨ret_int (by have := HL.out; unfold upToN; rw [if_pos (by omega)]), rfl⟩)
    · go_wp2
      go_ret
      exact ⟨ret_int (by have := HN.out; rw [take_all s k (by omega)] at this; unfold upToN; rw [if_neg (by omega), this]), rfl⟩

theorem i64_and1 (n : Int) : bits .and .i64 n 1 = n % 2 := by
  have h1 : (BitVec.ofInt 64 1).toNat = 2 ^ 1 - 1 := by decide
  have key : (BitVec.ofInt 64 n &&& BitVec.ofInt 64 1).toNat = (n % ((2 ^ 64 : Nat) : Int)).toNat % 2 ^ 1 := by
    rw [BitVec.toNat_and, BitVec.toNat_ofInt, h1, Nat.and_two_pow_sub_one_eq_mod]
  show IntKind.i64.wrap ((BitVec.ofInt 64 n &&& BitVec.ofInt 64 1).toNat : Nat) = n % 2
  rw [key, IntKind.wrap_i64]
  omega
theorem sumN_at (s t : ByteArray) (c k i d : Nat) (hi : s.size = i + 1 + k) (hi1 : i < s.size) (hi2 : i < t.size) (hd : d = car (L s) (L t) c k) : sumN (L s) (L t) c i = d + pn ((s[i].toNat : Nat) : Int) + pn ((t[i].toNat : Nat) : Int) := by
  unfold sumN
  rw [len_L, show s.size - 1 - i = k by omega, ← hd, pn_plc, pn_plc, at_getD, at_getD]
theorem car_at (s t : ByteArray) (c k i d : Nat) (hi : s.size = i + 1 + k) (hi1 : i < s.size) (hi2 : i < t.size) (hd : d = car (L s) (L t) c k) : car (L s) (L t) c (k + 1) = (d + pn ((s[i].toNat : Nat) : Int) + pn ((t[i].toNat : Nat) : Int)) / 2 := by
  rw [← sumN_at s t c k i d hi hi1 hi2 hd]
  unfold sumN
  rw [len_L, show s.size - 1 - i = k by omega]
  simp only [car]
  rw [len_L, show s.size - 1 - k = i by omega]
theorem sumBit_nat (a b : List UInt8) (c i : Nat) : ((sumBit a b c i).toNat : Int) = 48 + ((sumN a b c i : Nat) : Int) % 2 := by
  unfold sumBit
  by_cases h : sumN a b c i % 2 = 1
  · rw [if_pos h]; have : ((49 : UInt8).toNat : Int) = 49 := rfl; omega
  · rw [if_neg h]; have : ((48 : UInt8).toNat : Int) = 48 := rfl; omega

end Go.Proofs.Ytbpjgfemopakcaa
