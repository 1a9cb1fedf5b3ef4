/- Layer 20: floats out of numbers are plain ones; a quotient of twice as much (plain). -/
import Derived.Test.YtiecneefommdlaaFJ
namespace Go.Proofs.Ytiecneefommdlaa
set_option maxRecDepth 100000
open Go.RowKit Lg Nl Go.Maps Fl
set_option linter.unusedVariables false
set_option linter.unusedSimpArgs false

namespace Fl
open Ieee
theorem cut_even (s : Bool) {n d : Nat} (h : d ≤ n.log2 + 2) : n / 2 ^ d ≤ Toward.even.cut s n d ∧ Toward.even.cut s n d ≤ n / 2 ^ d + 1 := by
  have e : min d (n.log2 + 2) = d := Nat.min_eq_left h
  unfold Toward.cut
  simp only [e, Nat.one_shiftLeft]
  generalize (decide (2 ^ d < 2 * (n % 2 ^ d)) || 2 ^ d == 2 * (n % 2 ^ d) && n / 2 ^ d % 2 == 1) = b
  cases b <;> simp
theorem kept_rng (s : Bool) {m : Nat} {i : Int} (h0 : m ≠ 0) : 4503599627370496 ≤ Toward.even.cut s (m <<< (i - (i + m.log2 - 52)).toNat) ((i + m.log2 - 52) - i).toNat ∧ Toward.even.cut s (m <<< (i - (i + m.log2 - 52)).toNat) ((i + m.log2 - 52) - i).toNat ≤ 9007199254740992 := by
  have l1 := Nat.log2_self_le h0
  have l2 := Nat.lt_log2_self (n := m)
  by_cases h : m.log2 ≤ 52
  · have e1 : (i - (i + m.log2 - 52)).toNat = 52 - m.log2 := by omega
    have e2 : ((i + m.log2 - 52) - i).toNat = 0 := by omega
    rw [e1, e2, cut_zero, Nat.shiftLeft_eq]
    have p1 : 2 ^ m.log2 * 2 ^ (52 - m.log2) = 2 ^ 52 := by rw [← Nat.pow_add]; congr 1; omega
    have p2 : 2 ^ (m.log2 + 1) * 2 ^ (52 - m.log2) = 2 ^ 53 := by rw [← Nat.pow_add]; congr 1; omega
    have q1 := Nat.mul_le_mul_right (2 ^ (52 - m.log2)) l1
    have q2 := Nat.mul_le_mul_right (2 ^ (52 - m.log2)) (Nat.le_of_lt l2)
    rw [p1] at q1
    rw [p2] at q2
    exact ⟨q1, q2⟩
  · have e1 : (i - (i + m.log2 - 52)).toNat = 0 := by omega
    have e2 : ((i + m.log2 - 52) - i).toNat = m.log2 - 52 := by omega
    rw [e1, e2, Nat.shiftLeft_zero]
    obtain ⟨c1, c2⟩ := cut_even s (n := m) (d := m.log2 - 52) (by omega)
    have hp : 0 < 2 ^ (m.log2 - 52) := Nat.two_pow_pos _
    have p1 : 4503599627370496 * 2 ^ (m.log2 - 52) = 2 ^ m.log2 := by rw [show (4503599627370496 : Nat) = 2 ^ 52 from rfl, ← Nat.pow_add]; congr 1; omega
    have p2 : 9007199254740992 * 2 ^ (m.log2 - 52) = 2 ^ (m.log2 + 1) := by rw [show (9007199254740992 : Nat) = 2 ^ 53 from rfl, ← Nat.pow_add]; congr 1; omega
    have d1 : 4503599627370496 ≤ m / 2 ^ (m.log2 - 52) := (Nat.le_div_iff_mul_le hp).2 (by rw [p1]; exact l1)
    have d2 : m / 2 ^ (m.log2 - 52) < 9007199254740992 := (Nat.div_lt_iff_lt_mul hp).2 (by rw [p2]; exact l2)
    omega
/-- what is written of a number that is neither too great nor too small has a full significand -/
theorem near_nrm (s : Bool) {m : Nat} {i : Int} (h0 : m ≠ 0) (lo : -900 ≤ i + m.log2) (hi : i + m.log2 ≤ 900) : ∃ k j, rd (double.nearest s m i) = .number s k j ∧ 4503599627370496 ≤ k ∧ k < 9007199254740992 ∧ i + m.log2 - 52 ≤ j ∧ j ≤ i + m.log2 - 51 := by
  have hl := lp_is
  obtain ⟨k1, k2⟩ := kept_rng s (i := i) h0
  unfold Format.nearest
  rw [if_neg h0]
  simp only [fb_is]
  have e1 : max (i + (m.log2 : Int) - ((52 : Nat) : Int)) double.leastPlace = i + m.log2 - 52 := by
    show max _ lp = _
    omega
  rw [e1, ir_is, bn_is]
  generalize Toward.even.cut s (m <<< (i - (i + m.log2 - 52)).toNat) ((i + m.log2 - 52) - i).toNat = c at *
  obtain ⟨q, hq⟩ : ∃ q : Nat, i + m.log2 - 52 - double.leastPlace = (q : Int) := ⟨(i + m.log2 - 52 - lp).toNat, by show i + m.log2 - 52 - lp = _; omega⟩
  have hq2 : i + m.log2 - 52 - lp = (q : Int) := hq
  rw [hq, Int.toNat_natCast, Nat.min_eq_left (by omega)]
  by_cases hc : c = 9007199254740992
  · have e4 : q * 4503599627370496 + c = ((q + 1) + 1) * 4503599627370496 + 0 := by omega
    rw [e4, rd_word s (by decide) (by omega)]
    exact ⟨4503599627370496, lp + (q + 1 : Nat), rfl, by omega, by omega, by omega, by omega⟩
  · obtain ⟨k, hk⟩ : ∃ k, c = 4503599627370496 + k := ⟨c - 4503599627370496, by omega⟩
    have e4 : q * 4503599627370496 + c = (q + 1) * 4503599627370496 + k := by omega
    rw [e4, rd_word s (by omega) (by omega)]
    exact ⟨4503599627370496 + k, lp + q, rfl, by omega, by omega, by omega, by omega⟩
/-- a float whose double is exact -/
def Cl (x : Nat) : Prop := nanB x = true ∨ (∃ s, rd x = .infinity s) ∨ (∃ s i, rd x = .number s 0 i) ∨ (∃ s m i, rd x = .number s m i ∧ 4503599627370496 ≤ m ∧ m < 9007199254740992 ∧ lp ≤ i ∧ i ≤ 900)
theorem rd_two : rd 4611686018427387904 = .number false 4503599627370496 (-51) := by decide +kernel
def mulP (x r : Nat) : Prop := floatBits .mul .f64 4611686018427387904 x = some r ∨ floatBits .mul .f64 4611686018427387904 x = none ∧ nanB r = true
theorem mul_two {x r : Nat} (hc : Cl x) (h : mulP x r) : (nanB x = true ∧ nanB r = true) ∨ (∃ s, rd x = .infinity s ∧ rd r = .infinity s) ∨ (∃ s i, rd x = .number s 0 i ∧ rd r = .number s 0 lp) ∨ (∃ s m i, rd x = .number s m i ∧ rd r = .number s m (i + 1) ∧ 4503599627370496 ≤ m) := by
  unfold mulP at h
  rw [mul_eq, rd_two] at h
  rcases hc with hn | ⟨s, e⟩ | ⟨s, i, e⟩ | ⟨s, m, i, e, h1, h2, h3, h4⟩
  · refine Or.inl ⟨hn, ?_⟩
    unfold nanB at hn
    cases e : rd x with
    | nan s f => rw [e] at h; rcases h with h | ⟨_, h⟩
                 · cases h
                 · exact h
    | infinity s => rw [e] at hn; cases hn
    | number s m i => rw [e] at hn; cases hn
  · right; left
    rw [e] at h
    rcases h with h | ⟨h, _⟩
    · refine ⟨s, e, ?_⟩
      injection h with h
      rw [← h]
      show rd (double.write (.infinity (s ^^ false))) = _
      rw [Bool.xor_false, wr_inf, rd_inf]
    · cases h
  · right; right; left
    rw [e] at h
    rcases h with h | ⟨h, _⟩
    · refine ⟨s, i, e, ?_⟩
      injection h with h
      rw [← h]
      show rd (double.nearest (false ^^ s) (4503599627370496 * 0) _) = _
      rw [Bool.false_xor, Nat.mul_zero, near_zero]
    · cases h
  · right; right; right
    rw [e] at h
    rcases h with h | ⟨h, _⟩
    · refine ⟨s, m, i, e, ?_, h1⟩
      injection h with h
      rw [← h]
      show rd (double.nearest (false ^^ s) (4503599627370496 * m) (-51 + i)) = _
      rw [Bool.false_xor, near_two s h1 h2 h3 h4]
    · cases h
theorem quot_zero (g : Nat) (s t : Bool) (n : Nat) (i j : Int) (h : n ≠ 0) : (Datum.quotient g (.number s 0 i) (.number t n j)).map double.write = some (double.word (s ^^ t) 0) := by
  rw [quot_nn, if_neg h, Nat.zero_shiftLeft, Nat.zero_div, Nat.zero_mod]
  show some (double.nearest (s ^^ t) 0 _) = _
  unfold Format.nearest
  rw [if_pos rfl]
/-- twice as much of both is the same quotient -/
theorem quo_two {x y x2 y2 : Nat} (cx : Cl x) (cy : Cl y) (hx : mulP x x2) (hy : mulP y y2) : floatBits .quo .f64 x2 y2 = floatBits .quo .f64 x y := by
  rw [div_eq, div_eq]
  have hnan : ∀ z : Nat, nanB z = true → ∃ s f, rd z = .nan s f := fun z h => by
    unfold nanB at h
    cases e : rd z with
    | nan s f => exact ⟨s, f, rfl⟩
    | infinity s => rw [e] at h; cases h
    | number s m i => rw [e] at h; cases h
  have qn : ∀ (a : Datum) (s : Bool) (f : Nat), Datum.quotient 54 a (.nan s f) = none := fun a s f => by cases a <;> rfl
  rcases mul_two cy hy with ⟨b1, b2⟩ | hY
  · obtain ⟨s1, f1, e1⟩ := hnan y b1
    obtain ⟨s2, f2, e2⟩ := hnan y2 b2
    rw [e1, e2, qn, qn]
  rcases mul_two cx hx with ⟨a1, a2⟩ | ⟨s, a1, a2⟩ | ⟨s, i, a1, a2⟩ | ⟨s, m, i, a1, a2, a3⟩
  · obtain ⟨s1, f1, e1⟩ := hnan x a1
    obtain ⟨s2, f2, e2⟩ := hnan x2 a2
    rw [e1, e2]; rfl
  · rcases hY with ⟨t, b1, b2⟩ | ⟨t, j, b1, b2⟩ | ⟨t, n, j, b1, b2, b3⟩
    · rw [a1, a2, b1, b2]
    · rw [a1, a2, b1, b2]; rfl
    · rw [a1, a2, b1, b2]; rfl
  · rcases hY with ⟨t, b1, b2⟩ | ⟨t, j, b1, b2⟩ | ⟨t, n, j, b1, b2, b3⟩
    · rw [a1, a2, b1, b2]; rfl
    · rw [a1, a2, b1, b2]; rfl
    · rw [a1, a2, b1, b2, quot_zero _ _ _ _ _ _ (by omega), quot_zero _ _ _ _ _ _ (by omega)]
  · rcases hY with ⟨t, b1, b2⟩ | ⟨t, j, b1, b2⟩ | ⟨t, n, j, b1, b2, b3⟩
    · rw [a1, a2, b1, b2]; rfl
    · rw [a1, a2, b1, b2, quot_nn, quot_nn, if_pos rfl, if_pos rfl, if_neg (by omega)]
    · rw [a1, a2, b1, b2, quot_nn, quot_nn, if_neg (by omega), if_neg (by omega), show (i + 1 - (j + 1) : Int) = i - j by omega]
end Fl
end Go.Proofs.Ytiecneefommdlaa
