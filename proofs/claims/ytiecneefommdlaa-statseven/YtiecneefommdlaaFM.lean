/- Layer 20: rungs and what they stand for; rounding, told by what it keeps (plain). -/
import Derived.Test.YtiecneefommdlaaFL
namespace Go.Proofs.Ytiecneefommdlaa
set_option maxRecDepth 100000
open Go.RowKit Lg Nl Go.Maps Fl
set_option linter.unusedVariables false
set_option linter.unusedSimpArgs false

namespace Fl
open Ieee
/-- a rung's magnitude, in units of the least place -/
def mg (r : Nat) : Nat := if r < 4503599627370496 then r else (4503599627370496 + r % 4503599627370496) * 2 ^ (r / 4503599627370496 - 1)
theorem mg_at (q c : Nat) (h : q = 0 ∨ 4503599627370496 ≤ c) (hc : c ≤ 9007199254740992) : mg (q * 4503599627370496 + c) = c * 2 ^ q := by
  unfold mg
  by_cases h1 : q * 4503599627370496 + c < 4503599627370496
  · have h2 : q = 0 := by omega
    subst h2
    rw [if_pos h1]; omega
  · rw [if_neg h1]
    obtain ⟨k, hk⟩ : ∃ k, c = 4503599627370496 + k := ⟨c - 4503599627370496, by omega⟩
    subst hk
    by_cases h2 : k < 4503599627370496
    · have e1 : (q * 4503599627370496 + (4503599627370496 + k)) % 4503599627370496 = k := by omega
      have e2 : (q * 4503599627370496 + (4503599627370496 + k)) / 4503599627370496 - 1 = q := by omega
      rw [e1, e2]
    · have e3 : k = 4503599627370496 := by omega
      subst e3
      have e1 : (q * 4503599627370496 + (4503599627370496 + 4503599627370496)) % 4503599627370496 = 0 := by omega
      have e2 : (q * 4503599627370496 + (4503599627370496 + 4503599627370496)) / 4503599627370496 - 1 = q + 1 := by omega
      rw [e1, e2, Nat.pow_succ]
      generalize 2 ^ q = z
      omega
theorem mg_step (r : Nat) : mg r < mg (r + 1) := by
  obtain ⟨q, c, e, h, hc⟩ : ∃ q c, r = q * 4503599627370496 + c ∧ (q = 0 ∨ 4503599627370496 ≤ c) ∧ c + 1 ≤ 9007199254740992 := by
    by_cases h1 : r < 4503599627370496
    · exact ⟨0, r, by omega, Or.inl rfl, by omega⟩
    · exact ⟨r / 4503599627370496 - 1, 4503599627370496 + r % 4503599627370496, by omega, Or.inr (by omega), by omega⟩
  rw [e, Nat.add_assoc, mg_at q c h (by omega), mg_at q (c + 1) (by omega) hc]
  exact Nat.mul_lt_mul_of_pos_right (Nat.lt_succ_self c) (Nat.two_pow_pos q)
theorem mg_lt {a b : Nat} (h : a < b) : mg a < mg b := by
  induction b with
  | zero => omega
  | succ b ih =>
    by_cases e : a = b
    · subst e; exact mg_step a
    · exact Nat.lt_trans (ih (by omega)) (mg_step b)
theorem mg_le {a b : Nat} (h : a ≤ b) : mg a ≤ mg b := by
  by_cases e : a = b
  · subst e; exact Nat.le_refl _
  · exact Nat.le_of_lt (mg_lt (by omega))
theorem mg_zero : mg 0 = 0 := rfl
/-- what a rung below infinity's stands for -/
theorem rd_rung (s : Bool) {r : Nat} (h : r < 9218868437227405312) : ∃ m i, rd (double.word s r) = .number s m i ∧ lp ≤ i ∧ m * 2 ^ (i - lp).toNat = mg r := by
  obtain ⟨a1, a2⟩ := word_sign s (r := r) (by rw [sw_is]; omega)
  rw [read_is _ _ _ a1 a2]
  unfold mg
  rw [bn_is, ir_is]
  by_cases h1 : r < 4503599627370496
  · rw [if_pos h1, if_pos h1]
    refine ⟨r, lp, rfl, Int.le_refl _, ?_⟩
    rw [Int.sub_self]; exact Nat.mul_one r
  · rw [if_neg h1, if_neg h1, if_pos h]
    refine ⟨_, _, rfl, ?_, ?_⟩
    · show lp ≤ lp + _
      omega
    · congr 2
      show ((lp + ((r / 4503599627370496 - 1 : Nat) : Int)) - lp).toNat = _
      omega
theorem rd_ir (s : Bool) : rd (double.word s 9218868437227405312) = .infinity s := by cases s <;> decide +kernel
/-- a word that is a number or infinity -/
theorem word_of {x : Nat} (hx : x < 18446744073709551616) (hn : nanB x = false) : ∃ s r, x = double.word s r ∧ r ≤ 9218868437227405312 ∧ (s = true → 9223372036854775808 ≤ x ∧ x = 9223372036854775808 + r) ∧ (s = false → x = r) := by
  by_cases h : x < 9223372036854775808
  · refine ⟨false, x, rfl, ?_, fun e => (by cases e), fun _ => rfl⟩
    obtain ⟨a1, a2⟩ := word_sign false (r := x) (by rw [sw_is]; exact h)
    unfold nanB at hn
    rcases Nat.lt_or_ge 9218868437227405312 x with h2 | h2
    · exfalso
      have e := read_is (double.word false x) x false a1 a2
      rw [if_neg (by rw [bn_is]; omega), if_neg (by rw [ir_is]; omega), if_neg (by rw [ir_is]; omega)] at e
      rw [show x = double.word false x from rfl, e] at hn
      cases hn
    · exact h2
  · refine ⟨true, x - 9223372036854775808, ?_, ?_, fun _ => ⟨by omega, by omega⟩, fun e => (by cases e)⟩
    · show x = double.signWeight + _
      rw [sw_is]; omega
    · obtain ⟨a1, a2⟩ := word_sign true (r := x - 9223372036854775808) (by rw [sw_is]; omega)
      unfold nanB at hn
      rcases Nat.lt_or_ge 9218868437227405312 (x - 9223372036854775808) with h2 | h2
      · exfalso
        have e := read_is (double.word true (x - 9223372036854775808)) (x - 9223372036854775808) true a1 a2
        rw [if_neg (by rw [bn_is]; omega), if_neg (by rw [ir_is]; omega), if_neg (by rw [ir_is]; omega)] at e
        have ex : x = double.word true (x - 9223372036854775808) := by
          show x = double.signWeight + _
          rw [sw_is]; omega
        rw [← ex] at e
        rw [e] at hn
        cases hn
      · exact h2
/-- a float's place among whole numbers -/
def pl (x : Nat) : Int := if nanB x then 9223372036854775807 else if x < 9223372036854775808 then (x : Int) else 9223372036854775807 - (x : Int)
/-- what is held against another one of a float that is a number or infinity -/
theorem trip (s : Bool) {r : Nat} (h : r ≤ 9218868437227405312) : clsD (rd (double.word s r)) = (if r = 9218868437227405312 then (if s then -1 else 1) else 0) ∧ valD (rd (double.word s r)) = (if r = 9218868437227405312 then 0 else if s then -(mg r : Int) else (mg r : Int)) ∧ sgnD (rd (double.word s r)) = (if r = 9218868437227405312 then 0 else if s then -1 else 0) := by
  by_cases e : r = 9218868437227405312
  · subst e
    rw [rd_ir, if_pos rfl, if_pos rfl, if_pos rfl]
    exact ⟨rfl, rfl, rfl⟩
  · rw [if_neg e, if_neg e, if_neg e]
    obtain ⟨m, i, e1, e2, e3⟩ := rd_rung s (r := r) (by omega)
    rw [e1]
    refine ⟨rfl, ?_, rfl⟩
    show signed s m (i - lp).toNat = _
    unfold signed
    rw [Nat.shiftLeft_eq, e3]
set_option maxHeartbeats 4000000 in
theorem ord_pl {x y : Nat} (hx : x < 18446744073709551616) (hy : y < 18446744073709551616) : ordI x y = if pl x < pl y then -1 else if pl y < pl x then 1 else 0 := by
  have cls2 : ∀ {z : Nat}, z < 18446744073709551616 → nanB z = false → clsD (rd z) < 2 ∧ pl z < 9223372036854775807 := fun {z} h hn => by
    obtain ⟨s, r, e, h1, h2, h3⟩ := word_of h hn
    refine ⟨?_, ?_⟩
    · rw [e, (trip s h1).1]
      split
      · split <;> omega
      · omega
    · unfold pl
      rw [if_neg (by rw [hn]; decide)]
      cases s
      · have := h3 rfl; rw [if_pos (by omega)]; omega
      · have := h2 rfl; rw [if_neg (by omega)]; omega
  unfold ordI ordD
  cases hnx : nanB x with
  | true =>
    have c1 := (nan_cls x).1 hnx
    have v1 := nan_val hnx
    have p1 : pl x = 9223372036854775807 := by unfold pl; rw [if_pos hnx]
    cases hny : nanB y with
    | true =>
      have c2 := (nan_cls y).1 hny
      have v2 := nan_val hny
      have p2 : pl y = 9223372036854775807 := by unfold pl; rw [if_pos hny]
      rw [c1, c2, v1.1, v1.2, v2.1, v2.2, p1, p2]; rfl
    | false =>
      have c2 := cls2 hy hny
      rw [c1, if_neg (by omega), if_pos c2.1, p1, if_neg (by omega), if_pos c2.2]
  | false =>
    have c1 := cls2 hx hnx
    cases hny : nanB y with
    | true =>
      have c2 := (nan_cls y).1 hny
      have p2 : pl y = 9223372036854775807 := by unfold pl; rw [if_pos hny]
      rw [c2, if_pos c1.1, p2, if_pos c1.2]
    | false =>
      obtain ⟨s, r, ex, h1, h2, h3⟩ := word_of hx hnx
      obtain ⟨t, u, ey, k1, k2, k3⟩ := word_of hy hny
      have m1 : r < u → mg r < mg u := mg_lt
      have m2 : u < r → mg u < mg r := mg_lt
      have m3 : r = u → mg r = mg u := fun e => by rw [e]
      have m4 : 0 < r → 0 < mg r := fun h => by have := mg_lt h; rw [mg_zero] at this; exact this
      have m5 : 0 < u → 0 < mg u := fun h => by have := mg_lt h; rw [mg_zero] at this; exact this
      have m6 : r = 0 → mg r = 0 := fun e => by rw [e]; rfl
      have m7 : u = 0 → mg u = 0 := fun e => by rw [e]; rfl
      unfold pl
      rw [if_neg (show ¬ (nanB x = true) by rw [hnx]; decide), if_neg (show ¬ (nanB y = true) by rw [hny]; decide)]
      obtain ⟨a1, a2, a3⟩ := trip s h1
      obtain ⟨b1, b2, b3⟩ := trip t k1
      rw [← ex] at a1 a2 a3
      rw [← ey] at b1 b2 b3
      rw [a1, a2, a3, b1, b2, b3]
      generalize mg r = M at *
      generalize mg u = V at *
      clear a1 a2 a3 b1 b2 b3 ex ey c1 cls2
      cases s
      · have e1 := h3 rfl
        subst e1
        rw [if_pos (show x < 9223372036854775808 by omega)]
        cases t
        · have e2 := k3 rfl
          subst e2
          rw [if_pos (show y < 9223372036854775808 by omega)]
          simp only [Bool.false_eq_true, if_false]
          repeat' split
          all_goals omega
        · obtain ⟨e3, e2⟩ := k2 rfl
          rw [if_neg (show ¬ y < 9223372036854775808 by omega)]
          simp only [Bool.false_eq_true, if_false, if_true]
          repeat' split
          all_goals omega
      · obtain ⟨e4, e1⟩ := h2 rfl
        rw [if_neg (show ¬ x < 9223372036854775808 by omega)]
        cases t
        · have e2 := k3 rfl
          subst e2
          rw [if_pos (show y < 9223372036854775808 by omega)]
          simp only [Bool.false_eq_true, if_false, if_true]
          repeat' split
          all_goals omega
        · obtain ⟨e3, e2⟩ := k2 rfl
          rw [if_neg (show ¬ y < 9223372036854775808 by omega)]
          simp only [if_true]
          repeat' split
          all_goals omega
end Fl
end Go.Proofs.Ytiecneefommdlaa
