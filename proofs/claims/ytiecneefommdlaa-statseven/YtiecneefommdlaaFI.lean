/- Layer 20: opposites, and twice a number (plain). -/
import Derived.Test.YtiecneefommdlaaFH
namespace Go.Proofs.Ytiecneefommdlaa
set_option maxRecDepth 100000
open Go.RowKit Lg Nl Go.Maps Fl
set_option linter.unusedVariables false
set_option linter.unusedSimpArgs false

namespace Fl
open Ieee
theorem sw_is : double.signWeight = 9223372036854775808 := rfl
theorem bn_is : double.binade = 4503599627370496 := rfl
theorem ir_is : double.infRung = 9218868437227405312 := rfl
theorem fb_is : double.fractionBits = 52 := rfl
/-- what a word below infinity stands for, its significand being full -/
theorem read_is (w r : Nat) (neg : Bool) (h1 : (w / double.signWeight % 2 == 1) = neg) (h2 : w % double.signWeight = r) : rd w = if r < double.binade then .number neg r double.leastPlace else if r < double.infRung then .number neg (double.binade + r % double.binade) (double.leastPlace + (r / double.binade - 1 : Nat)) else if r = double.infRung then .infinity neg else .nan neg (r - double.infRung) := by
  subst h1 h2
  rfl
theorem word_sign (s : Bool) {r : Nat} (h : r < double.signWeight) : (double.word s r / double.signWeight % 2 == 1) = s ∧ double.word s r % double.signWeight = r := by
  rw [sw_is] at *
  unfold Format.word
  rw [sw_is]
  cases s
  · refine ⟨?_, ?_⟩
    · show (r / 9223372036854775808 % 2 == 1) = false
      rw [Nat.div_eq_of_lt h]; rfl
    · show r % 9223372036854775808 = r
      exact Nat.mod_eq_of_lt h
  · refine ⟨?_, ?_⟩
    · show ((9223372036854775808 + r) / 9223372036854775808 % 2 == 1) = true
      have : (9223372036854775808 + r) / 9223372036854775808 = 1 := by omega
      rw [this]; rfl
    · show (9223372036854775808 + r) % 9223372036854775808 = r
      omega
theorem rd_word (s : Bool) {k q : Nat} (hk : k < 4503599627370496) (hq : q < 2046) : rd (double.word s ((q + 1) * 4503599627370496 + k)) = .number s (4503599627370496 + k) (lp + q) := by
  have h1 : (q + 1) * 4503599627370496 + k < 9218868437227405312 := by omega
  obtain ⟨a1, a2⟩ := word_sign s (r := (q + 1) * 4503599627370496 + k) (by rw [sw_is]; omega)
  rw [read_is _ _ _ a1 a2, if_neg (by rw [bn_is]; omega), if_pos (by rw [ir_is]; exact h1), bn_is]
  have e6 : ((q + 1) * 4503599627370496 + k) % 4503599627370496 = k := by omega
  have e7 : ((q + 1) * 4503599627370496 + k) / 4503599627370496 = q + 1 := by omega
  rw [e6, e7]
  rfl
theorem rd_word0 (s : Bool) : rd (double.word s 0) = .number s 0 lp := by cases s <;> decide +kernel
theorem cut_zero (s : Bool) (n : Nat) : Toward.even.cut s n 0 = n := by
  unfold Toward.cut
  simp [Nat.mod_one]
theorem log_mul {m : Nat} (h : m ≠ 0) : ∀ d : Nat, (m * 2 ^ d).log2 = m.log2 + d
  | 0 => by rw [Nat.pow_zero, Nat.mul_one]; rfl
  | d + 1 => by
    have e : m * 2 ^ (d + 1) = 2 * (m * 2 ^ d) := by rw [Nat.pow_succ, ← Nat.mul_assoc, Nat.mul_comm]
    have h2 : m * 2 ^ d ≠ 0 := Nat.mul_ne_zero h (Nat.ne_of_gt (Nat.two_pow_pos d))
    rw [e, Nat.log2_two_mul h2, log_mul h d]
    omega
theorem cut_exact (s : Bool) (m d : Nat) : Toward.even.cut s (m * 2 ^ d) d = m := by
  have hp : 0 < 2 ^ d := Nat.two_pow_pos d
  by_cases h0 : m = 0
  · subst h0
    unfold Toward.cut
    simp
  · have hl : min d ((m * 2 ^ d).log2 + 2) = d := by
      rw [log_mul h0 d]; omega
    unfold Toward.cut
    simp only [hl, Nat.one_shiftLeft, Nat.mul_mod_left, Nat.mul_div_cancel _ hp]
    simp
theorem log_52 {m : Nat} (h1 : 4503599627370496 ≤ m) (h2 : m < 9007199254740992) : m.log2 = 52 := by
  rw [Nat.log2_eq_iff (by omega)]
  exact ⟨h1, h2⟩
/-- twice a number with a full significand -/
theorem near_two (s : Bool) {m : Nat} {i : Int} (h1 : 4503599627370496 ≤ m) (h2 : m < 9007199254740992) (i1 : lp ≤ i) (i2 : i ≤ 900) : rd (double.nearest s (4503599627370496 * m) (-51 + i)) = .number s m (i + 1) := by
  have hl := lp_is
  have e0 : 4503599627370496 * m = m * 2 ^ 52 := by rw [Nat.mul_comm]
  unfold Format.nearest
  rw [if_neg (by omega), e0, log_mul (by omega) 52, log_52 h1 h2]
  simp only [fb_is]
  have e1 : max ((-51 + i) + ((52 + 52 : Nat) : Int) - ((52 : Nat) : Int)) double.leastPlace = i + 1 := by
    show max _ lp = _
    omega
  rw [e1]
  have e2 : (-51 + i - (i + 1)).toNat = 0 := by omega
  have e3 : (i + 1 - (-51 + i)).toNat = 52 := by omega
  rw [e2, e3, Nat.shiftLeft_zero, cut_exact, ir_is, bn_is]
  obtain ⟨q, hq⟩ : ∃ q : Nat, i + 1 - double.leastPlace = (q : Int) := ⟨(i + 1 - lp).toNat, by show i + 1 - lp = _; omega⟩
  obtain ⟨k, hk⟩ : ∃ k, m = 4503599627370496 + k := ⟨m - 4503599627370496, by omega⟩
  have hq2 : i + 1 - lp = (q : Int) := hq
  rw [hq, Int.toNat_natCast, hk, Nat.min_eq_left (by omega)]
  have e4 : q * 4503599627370496 + (4503599627370496 + k) = (q + 1) * 4503599627370496 + k := by omega
  rw [e4, rd_word s (by omega) (by omega)]
  congr 1
  omega
theorem near_zero (s : Bool) (i : Int) : rd (double.nearest s 0 i) = .number s 0 lp := by
  unfold Format.nearest
  rw [if_pos rfl]
  exact rd_word0 s
/-- a float with the other sign -/
theorem rd_neg (b : Nat) : rd (Op.negFloat .f64 b) = (rd b).opposite := by
  have e : Op.negFloat .f64 b = b ^^^ 2 ^ 63 := rfl
  have h2 : (b ^^^ 2 ^ 63) % double.signWeight = b % double.signWeight := by
    show (b ^^^ 2 ^ 63) % 2 ^ 63 = b % 2 ^ 63
    rw [Nat.xor_mod_two_pow, Nat.mod_self, Nat.xor_zero]
  have h1 : ((b ^^^ 2 ^ 63) / double.signWeight % 2 == 1) = !(b / double.signWeight % 2 == 1) := by
    show ((b ^^^ 2 ^ 63) / 2 ^ 63 % 2 == 1) = !(b / 2 ^ 63 % 2 == 1)
    rw [Nat.xor_div_two_pow, Nat.div_self (Nat.two_pow_pos 63)]
    generalize b / 2 ^ 63 = c
    have h3 : (c ^^^ 1) % 2 = (c % 2) ^^^ 1 := by
      have := Nat.xor_mod_two_pow (a := c) (b := 1) (n := 1)
      simpa using this
    rw [h3]
    rcases Nat.mod_two_eq_zero_or_one c with h | h <;> rw [h] <;> rfl
  rw [e, read_is _ _ _ h1 h2, read_is b _ _ rfl rfl]
  split
  · rfl
  · split
    · rfl
    · split <;> rfl
end Fl
end Go.Proofs.Ytiecneefommdlaa
