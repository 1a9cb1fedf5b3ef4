/- Layer 1: turned, numbers, sums. -/
import Derived.Test.YtpdcmehjndhcjaaWD
import Derived.Test.YtpdcmehjndhcjaaGM
import Derived.Laws.Bits128
namespace Go.Proofs.Ytpdcmehjndhcjaa
open Go.RowKit Lg
set_option linter.unusedVariables false

theorem i64_and1 (n : Int) : bits .and .i64 n 1 = n % 2 := by
  have h1 : (BitVec.ofInt 64 1).toNat = 2 ^ 1 - 1 := by decide
  have key : (BitVec.ofInt 64 n &&& BitVec.ofInt 64 1).toNat = (n % ((2 ^ 64 : Nat) : Int)).toNat % 2 ^ 1 := by
    rw [BitVec.toNat_and, BitVec.toNat_ofInt, h1, Nat.and_two_pow_sub_one_eq_mod]
  show IntKind.i64.wrap ((BitVec.ofInt 64 n &&& BitVec.ofInt 64 1).toNat : Nat) = n % 2
  rw [key, IntKind.wrap_i64]
  omega
theorem sumN_at (s t : ByteArray) (c k i d : Nat) (hi : s.size = i + 1 + k) (hi1 : i < s.size) (hi2 : i < t.size) (hd : d = car (L s) (L t) c k) : sumN (L s) (L t) c i = d + pn ((s[i].toNat : Nat) : Int) + pn ((t[i].toNat : Nat) : Int) := by
  unfold sumN
  rw [len_L, show s.size - 1 - i = k by omega, ← hd, pn_plc, pn_plc, at_getD, at_getD]
theorem car_at (s t : ByteArray) (c k i d : Nat) (hi : s.size = i + 1 + k) (hi1 : i < s.size) (hi2 : i < t.size) (hd : d = car (L s) (L t) c k) : car (L s) (L t) c (k + 1) = (d + pn ((s[i].toNat : Nat) : Int) + pn ((t[i].toNat : Nat) : Int)) / 2 := by
  rw [← sumN_at s t c k i d hi hi1 hi2 hd]
  unfold sumN
  rw [len_L, show s.size - 1 - i = k by omega]
  simp only [car]
  rw [len_L, show s.size - 1 - k = i by omega]
theorem sumBit_nat (a b : List UInt8) (c i : Nat) : ((sumBit a b c i).toNat : Int) = 48 + ((sumN a b c i : Nat) : Int) % 2 := by
  unfold sumBit
  by_cases h : sumN a b c i % 2 = 1
  · rw [if_pos h]; have : ((49 : UInt8).toNat : Int) = 49 := rfl; omega
  · rw [if_neg h]; have : ((48 : UInt8).toNat : Int) = 48 := rfl; omega

end Go.Proofs.Ytpdcmehjndhcjaa
