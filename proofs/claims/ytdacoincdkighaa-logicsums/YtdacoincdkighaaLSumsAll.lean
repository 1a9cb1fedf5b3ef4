/- The law LogicSums: its walk, all together. -/
import Derived.Test.YtdacoincdkighaaLSumsE
import Derived.Test.YtdacoincdkighaaLSumsG
namespace Go.Proofs.Ytdacoincdkighaa
open Go.RowKit Lg
set_option linter.unusedVariables false

theorem nat_lt_pow {r W : Nat} (hW : W ≤ 30) (h : r < 2 ^ W) : r ≤ 2147483647 ∧ r < 1073741824 := by
  have : 2 ^ W ≤ 2 ^ 30 := Nat.pow_le_pow_right (by decide) hW
  omega
theorem LogicSums_c (a b wd : Int) (w : World) (ha : -9223372036854775808 ≤ a ∧ a ≤ 9223372036854775807) (hb : -9223372036854775808 ≤ b ∧ b ≤ 9223372036854775807) (hw : -9223372036854775808 ≤ wd ∧ wd ≤ 9223372036854775807) : Calls Try.prog 8 #[.int .i64 a, .int .i64 b, .int .i64 wd] w fun e w' => e = .returned (.bool true) ∧ Below w.heap.size w w' := by
  obtain ⟨c, hcd⟩ : ∃ c : Nat, wd % 256 = (c : Int) := ⟨(wd % 256).toNat, by omega⟩
  have hc : c < 256 := by omega
  have h1 : bits .and .i64 wd 255 = (c : Int) := by
    have := i64_maskAny wd 8 255 (by omega) (by decide)
    rw [show (((255 : Nat) : Int)) = 255 from rfl] at this
    rw [this]; exact hcd
  obtain ⟨d, h2⟩ : ∃ d : Nat, (c : Int) % 30 = (d : Int) := ⟨c % 30, by omega⟩
  have hd : d < 30 := by omega
  obtain ⟨W, h3⟩ : ∃ W : Nat, 1 + (d : Int) = (W : Int) := ⟨1 + d, by omega⟩
  have hW : 1 ≤ W := by omega
  have hW2 : W ≤ 30 := by omega
  have hp : 0 < 2 ^ W := Nat.two_pow_pos W
  have hple : 2 ^ W ≤ 2 ^ 30 := Nat.pow_le_pow_right (by decide) hW2
  obtain ⟨M, hMd⟩ : ∃ M, M = 2 ^ W - 1 := ⟨_, rfl⟩
  have hM : M < 1073741824 := by omega
  have h4 : wrap64 (wrap64 (2 ^ W) - 1) = (M : Int) := by
    have e : ((2 : Int) ^ W) = ((2 ^ W : Nat) : Int) := by simp
    rw [e, IntWalk.wrap64_in ((2 ^ W : Nat) : Int) ⟨by omega, by omega⟩, IntWalk.wrap64_in (((2 ^ W : Nat) : Int) - 1) ⟨by omega, by omega⟩]; omega
  have mask := fun n => i64_maskAny n W M (by omega) hMd
  have hPI : (0 : Int) < ((2 ^ W : Nat) : Int) := by omega
  obtain ⟨x, hxd⟩ : ∃ x : Nat, a % ((2 ^ W : Nat) : Int) = (x : Int) := ⟨(a % ((2 ^ W : Nat) : Int)).toNat, by have := Int.emod_nonneg a (Int.ne_of_gt hPI); omega⟩
  obtain ⟨y, hyd⟩ : ∃ y : Nat, b % ((2 ^ W : Nat) : Int) = (y : Int) := ⟨(b % ((2 ^ W : Nat) : Int)).toNat, by have := Int.emod_nonneg b (Int.ne_of_gt hPI); omega⟩
  have hpx : x < 2 ^ W := by have := Int.emod_lt_of_pos a hPI; omega
  have hpy : y < 2 ^ W := by have := Int.emod_lt_of_pos b hPI; omega
  have h5 : bits .and .i64 a (M : Int) = (x : Int) := by rw [mask]; exact hxd
  have h6 : bits .and .i64 b (M : Int) = (y : Int) := by rw [mask]; exact hyd
  have hx : x < 1073741824 := by omega
  have hy : y < 1073741824 := by omega
  have q0 : bits .and .i64 ((x : Int) + (y : Int)) (M : Int) = (((x + y) % 2 ^ W : Nat) : Int) := by rw [mask, Int.natCast_emod]; congr 1
  have q1 : bits .and .i64 ((x : Int) - (y : Int)) (M : Int) = (((x + (2 ^ W - 1 - y) + 1) % 2 ^ W : Nat) : Int) := by
    rw [mask, Int.natCast_emod, show ((x + (2 ^ W - 1 - y) + 1 : Nat) : Int) = ((x : Int) - (y : Int)) + ((2 ^ W : Nat) : Int) by omega, Int.add_emod_right]
  have q5 : bits .and .i64 (-(x : Int)) (M : Int) = (((2 ^ W - 1 - x + 1) % 2 ^ W : Nat) : Int) := by
    rw [mask, Int.natCast_emod, show ((2 ^ W - 1 - x + 1 : Nat) : Int) = -(x : Int) + ((2 ^ W : Nat) : Int) by omega, Int.add_emod_right]
  have l2 : x &&& y < 2 ^ W := Nat.and_lt_two_pow x hpy
  have l3 : x ||| y < 2 ^ W := Nat.or_lt_two_pow hpx hpy
  have l4 : x ^^^ y < 2 ^ W := Nat.xor_lt_two_pow hpx hpy
  have q2 : bits .and .i64 (x : Int) (y : Int) = (((x &&& y) % 2 ^ W : Nat) : Int) := by rw [i64_and_nat x y (by omega) (by omega), Nat.mod_eq_of_lt l2]
  have q3 : bits .or .i64 (x : Int) (y : Int) = (((x ||| y) % 2 ^ W : Nat) : Int) := by rw [i64_or_nat x y (by omega) (by omega), Nat.mod_eq_of_lt l3]
  have q4 : bits .xor .i64 (x : Int) (y : Int) = (((x ^^^ y) % 2 ^ W : Nat) : Int) := by rw [i64_xor_nat x y (by omega) (by omega), Nat.mod_eq_of_lt l4]
  have kk : ∀ n, n % 2 ^ W ≤ 2147483647 := fun n => (nat_lt_pow hW2 (Nat.mod_lt n hp)).1
  rcases Nat.lt_trichotomy x y with h | h | h
  · exact sumsLt a b wd w c d W M x y h1 h2 h3 hW hW2 h4 h5 h6 hx hy hM hc hd _ _ _ _ _ _ (x + y) (x + (2 ^ W - 1 - y) + 1) (x &&& y) (x ||| y) (x ^^^ y) (2 ^ W - 1 - x + 1) q0 q1 q2 q3 q4 q5 rfl (kk _) rfl (kk _) rfl (kk _) rfl (kk _) rfl (kk _) rfl (kk _) (b13 x y W) (b14 x y W hpy) (b23 x y W) (b25 x y W) (b24 x y W) (u9 x W hpx) h hpx hpy
  · exact sumsEq a b wd w c d W M x y h1 h2 h3 hW hW2 h4 h5 h6 hx hy hM hc hd _ _ _ _ _ _ (x + y) (x + (2 ^ W - 1 - y) + 1) (x &&& y) (x ||| y) (x ^^^ y) (2 ^ W - 1 - x + 1) q0 q1 q2 q3 q4 q5 rfl (kk _) rfl (kk _) rfl (kk _) rfl (kk _) rfl (kk _) rfl (kk _) (b13 x y W) (b14 x y W hpy) (b23 x y W) (b25 x y W) (b24 x y W) (u9 x W hpx) h hpx hpy
  · exact sumsGt a b wd w c d W M x y h1 h2 h3 hW hW2 h4 h5 h6 hx hy hM hc hd _ _ _ _ _ _ (x + y) (x + (2 ^ W - 1 - y) + 1) (x &&& y) (x ||| y) (x ^^^ y) (2 ^ W - 1 - x + 1) q0 q1 q2 q3 q4 q5 rfl (kk _) rfl (kk _) rfl (kk _) rfl (kk _) rfl (kk _) rfl (kk _) (b13 x y W) (b14 x y W hpy) (b23 x y W) (b25 x y W) (b24 x y W) (u9 x W hpx) h hpx hpy
end Go.Proofs.Ytdacoincdkighaa
