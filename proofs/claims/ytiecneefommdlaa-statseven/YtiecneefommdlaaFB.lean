/- Layer 20: what the document asks of floats (None, Inf, Minus, Same, Order). -/
import Derived.Test.YtiecneefommdlaaFA
import Derived.WalkLawsBesides
namespace Go.Proofs.Ytiecneefommdlaa
set_option maxRecDepth 100000
open Go.RowKit Lg Nl Go.Maps Fl
set_option linter.unusedVariables false
set_option linter.unusedSimpArgs false

namespace Fl
open Ieee
def infW (s : Bool) : Nat := if s then 18442240474082181120 else 9218868437227405312
theorem rd_inf (s : Bool) : rd (infW s) = .infinity s := by cases s <;> decide +kernel
theorem rd_zero : rd 0 = .number false 0 lp := by decide +kernel
theorem rd_one : rd 4607182418800017408 = .number false 4503599627370496 (-52) := by decide +kernel
theorem wr_inf (s : Bool) : double.write (.infinity s) = infW s := by cases s <;> decide +kernel
theorem ord_eq (x y : Nat) : FloatKind.f64.format.order x y = (rd x).order (rd y) := rfl
theorem div_eq (x y : Nat) : floatBits .quo .f64 x y = ((rd x).quotient 54 (rd y)).map double.write := rfl
/-- how two floats stand, none of them being no number -/
theorem ord_cases {x y : Nat} (hx : nanB x = false) (hy : nanB y = false) :
    ((rd x).order (rd y) = some .lt ∧ (clsD (rd x) < clsD (rd y) ∨ clsD (rd x) = clsD (rd y) ∧ valD (rd x) < valD (rd y))) ∨
    ((rd x).order (rd y) = some .eq ∧ clsD (rd x) = clsD (rd y) ∧ valD (rd x) = valD (rd y)) ∨
    ((rd x).order (rd y) = some .gt ∧ (clsD (rd y) < clsD (rd x) ∨ clsD (rd x) = clsD (rd y) ∧ valD (rd y) < valD (rd x))) := by
  have ix := rd_in x
  have iy := rd_in y
  unfold nanB at hx hy
  cases h1 : rd x with
  | nan s f => rw [h1] at hx; cases hx
  | infinity s =>
    cases h2 : rd y with
    | nan t f => rw [h2] at hy; cases hy
    | infinity t => cases s <;> cases t <;> simp [Datum.order, clsD, valD] <;> decide
    | number t n j => cases s <;> simp [Datum.order, clsD]
  | number s m i =>
    cases h2 : rd y with
    | nan t f => rw [h2] at hy; cases hy
    | infinity t => cases t <;> simp [Datum.order, clsD]
    | number t n j =>
      rw [h1] at ix
      rw [h2] at iy
      rw [ord_num ix iy]
      rcases Int.lt_trichotomy (valD (.number s m i)) (valD (.number t n j)) with h | h | h
      · exact Or.inl ⟨by rw [Int.compare_eq_lt.2 h], Or.inr ⟨rfl, h⟩⟩
      · exact Or.inr (Or.inl ⟨by rw [Int.compare_eq_eq.2 h], rfl, h⟩)
      · exact Or.inr (Or.inr ⟨by rw [Int.compare_eq_gt.2 h], Or.inr ⟨rfl, h⟩⟩)
theorem nan_cls (x : Nat) : nanB x = true ↔ clsD (rd x) = 2 := by
  unfold nanB
  cases rd x with
  | nan s f => simp [Datum.isNaN, clsD]
  | infinity s => cases s <;> simp [Datum.isNaN, clsD]
  | number s m i => simp [Datum.isNaN, clsD]
theorem nan_ord {x y : Nat} (h : nanB x = true ∨ nanB y = true) : (rd x).order (rd y) = none := by
  unfold nanB at h
  cases h1 : rd x with
  | nan s f => rfl
  | infinity s =>
    cases h2 : rd y with
    | nan t f => rfl
    | infinity t => rw [h1, h2] at h; simp [Datum.isNaN] at h
    | number t n j => rw [h1, h2] at h; simp [Datum.isNaN] at h
  | number s m i =>
    cases h2 : rd y with
    | nan t f => rfl
    | infinity t => rw [h1, h2] at h; simp [Datum.isNaN] at h
    | number t n j => rw [h1, h2] at h; simp [Datum.isNaN] at h
theorem ne_self (x : Nat) : (FloatKind.f64.format.order x x != some .eq) = nanB x := by
  rw [ord_eq]
  cases h : nanB x with
  | true => rw [nan_ord (Or.inl h)]; rfl
  | false =>
    rcases ord_cases h h with ⟨_, h2⟩ | ⟨h1, _⟩ | ⟨_, h2⟩
    · omega
    · rw [h1]; rfl
    · omega
theorem nan_val {x : Nat} (h : nanB x = true) : valD (rd x) = 0 ∧ sgnD (rd x) = 0 := by
  unfold nanB at h
  cases h1 : rd x with
  | nan s f => exact ⟨rfl, rfl⟩
  | infinity s => rw [h1] at h; cases h
  | number s m i => rw [h1] at h; cases h
/-- a minus, by what stands for it -/
theorem minus_sgn {x y : Nat} (hx : nanB x = false) (hy : nanB y = false) (hc : clsD (rd x) = clsD (rd y)) :
    (minusB x = minusB y ∧ sgnD (rd x) = sgnD (rd y)) ∨ (minusB x = true ∧ minusB y = false ∧ sgnD (rd x) < sgnD (rd y)) ∨ (minusB x = false ∧ minusB y = true ∧ sgnD (rd y) < sgnD (rd x)) := by
  unfold minusB
  rw [hx, hy]
  unfold nanB at hx hy
  cases h1 : rd x with
  | nan s f => rw [h1] at hx; cases hx
  | infinity s =>
    cases h2 : rd y with
    | nan t f => rw [h2] at hy; cases hy
    | infinity t => rw [h1, h2] at hc; cases s <;> cases t <;> simp [clsD] at hc <;> simp [Datum.neg, sgnD]
    | number t n j => rw [h1, h2] at hc; cases s <;> simp [clsD] at hc
  | number s m i =>
    cases h2 : rd y with
    | nan t f => rw [h2] at hy; cases hy
    | infinity t => rw [h1, h2] at hc; cases t <;> simp [clsD] at hc
    | number t n j => cases s <;> cases t <;> simp [Datum.neg, sgnD]
theorem minus_cases (x : Nat) : (FloatKind.f64.format.order x 0 = some .lt ∧ minusB x = true) ∨ (∃ s, FloatKind.f64.format.order x 0 = some .eq ∧ floatBits .quo .f64 4607182418800017408 x = some (infW s) ∧ minusB x = s) ∨ (FloatKind.f64.format.order x 0 ≠ some .lt ∧ FloatKind.f64.format.order x 0 ≠ some .eq ∧ minusB x = false) := by
  have ix := rd_in x
  rw [ord_eq, rd_zero, div_eq, rd_one]
  unfold minusB nanB
  cases h1 : rd x with
  | nan s f => exact Or.inr (Or.inr ⟨by simp [Datum.order], by simp [Datum.order], rfl⟩)
  | infinity s => cases s <;> simp [Datum.order, Datum.isNaN, Datum.neg]
  | number s m i =>
    rw [h1] at ix
    rw [ord_num ix (Int.le_refl _)]
    have hz : valD (.number false 0 lp) = 0 := by
      show signed false 0 (lp - lp).toNat = 0
      exact signed_zero.2 rfl
    rw [hz]
    rcases Int.lt_trichotomy (valD (.number s m i)) 0 with h | h | h
    · left
      refine ⟨by rw [Int.compare_eq_lt.2 h], ?_⟩
      have := (signed_neg.1 h).1
      simp [Datum.isNaN, Datum.neg, this]
    · right; left
      have h0 : m = 0 := signed_zero.1 h
      subst h0
      refine ⟨s, by rw [Int.compare_eq_eq.2 h], ?_, by simp [Datum.isNaN, Datum.neg]⟩
      rw [← wr_inf]
      simp [Datum.quotient]
    · right; right
      refine ⟨by rw [Int.compare_eq_gt.2 h]; simp, by rw [Int.compare_eq_gt.2 h]; simp, ?_⟩
      cases s with
      | false => simp [Datum.isNaN, Datum.neg]
      | true =>
        exfalso
        by_cases e : m = 0
        · have := (signed_zero (s := true) (k := (i - lp).toNat)).2 e; have h' : 0 < signed true m (i - lp).toNat := h; omega
        · have := (signed_neg (s := true) (k := (i - lp).toNat)).2 ⟨rfl, e⟩; have h' : 0 < signed true m (i - lp).toNat := h; omega
theorem inf_lt (s : Bool) : (FloatKind.f64.format.order (infW s) 0 == some .lt) = s := by cases s <;> decide +kernel
/-- Same, as the document asks it -/
theorem same_is (x y : Nat) : sameB x y = if nanB x || nanB y then nanB x && nanB y else (FloatKind.f64.format.order x y == some .eq) && (minusB x == minusB y) := by
  rw [ord_eq]
  unfold sameB ordI ordD
  cases hx : nanB x with
  | true =>
    have c1 := (nan_cls x).1 hx
    have v1 := nan_val hx
    cases hy : nanB y with
    | true =>
      have c2 := (nan_cls y).1 hy
      have v2 := nan_val hy
      rw [c1, c2, v1.1, v1.2, v2.1, v2.2]; rfl
    | false =>
      have c2 : clsD (rd y) < 2 := by
        have h := fun e => Bool.eq_false_iff.1 hy ((nan_cls y).2 e)
        cases h2 : rd y with
        | nan t f => rw [h2] at h; exact absurd rfl h
        | infinity t => cases t <;> simp [clsD]
        | number t n j => simp [clsD]
      rw [c1, if_neg (by omega), if_pos c2]; rfl
  | false =>
    cases hy : nanB y with
    | true =>
      have c2 := (nan_cls y).1 hy
      have c1 : clsD (rd x) < 2 := by
        have h := fun e => Bool.eq_false_iff.1 hx ((nan_cls x).2 e)
        cases h2 : rd x with
        | nan t f => rw [h2] at h; exact absurd rfl h
        | infinity t => cases t <;> simp [clsD]
        | number t n j => simp [clsD]
      rw [c2, if_pos c1]; rfl
    | false =>
      rcases ord_cases hx hy with ⟨h1, h2⟩ | ⟨h1, h2, h3⟩ | ⟨h1, h2⟩
      · rw [h1]
        rcases h2 with h2 | ⟨h2, h3⟩
        · rw [if_pos h2]; rfl
        · rw [if_neg (by omega), if_neg (by omega), if_pos h3]; rfl
      · rw [h1, if_neg (by omega), if_neg (by omega), if_neg (by omega), if_neg (by omega)]
        rcases minus_sgn hx hy h2 with ⟨m1, m2⟩ | ⟨m1, m2, m3⟩ | ⟨m1, m2, m3⟩
        · rw [if_neg (by omega), if_neg (by omega), m1]; simp
        · rw [if_pos m3, m1, m2]; rfl
        · rw [if_neg (by omega), if_pos m3, m1, m2]; rfl
      · rw [h1]
        rcases h2 with h2 | ⟨h2, h3⟩
        · rw [if_neg (by omega), if_pos h2]; rfl
        · rw [if_neg (by omega), if_neg (by omega), if_neg (by omega), if_pos h3]; rfl
/-- Order, as the document asks it -/
theorem ord_is (x y : Nat) : ordI x y = if nanB x || nanB y then (if nanB x && nanB y then 0 else if nanB x then 1 else -1) else if FloatKind.f64.format.order x y == some .lt then -1 else if FloatKind.f64.format.order x y == some .gt then 1 else if minusB x == minusB y then 0 else if minusB x then -1 else 1 := by
  rw [ord_eq]
  unfold ordI ordD
  cases hx : nanB x with
  | true =>
    have c1 := (nan_cls x).1 hx
    have v1 := nan_val hx
    cases hy : nanB y with
    | true =>
      have c2 := (nan_cls y).1 hy
      have v2 := nan_val hy
      rw [c1, c2, v1.1, v1.2, v2.1, v2.2]; rfl
    | false =>
      have c2 : clsD (rd y) < 2 := by
        have h := fun e => Bool.eq_false_iff.1 hy ((nan_cls y).2 e)
        cases h2 : rd y with
        | nan t f => rw [h2] at h; exact absurd rfl h
        | infinity t => cases t <;> simp [clsD]
        | number t n j => simp [clsD]
      rw [c1, if_neg (by omega), if_pos c2]; rfl
  | false =>
    cases hy : nanB y with
    | true =>
      have c2 := (nan_cls y).1 hy
      have c1 : clsD (rd x) < 2 := by
        have h := fun e => Bool.eq_false_iff.1 hx ((nan_cls x).2 e)
        cases h2 : rd x with
        | nan t f => rw [h2] at h; exact absurd rfl h
        | infinity t => cases t <;> simp [clsD]
        | number t n j => simp [clsD]
      rw [c2, if_pos c1]; rfl
    | false =>
      rcases ord_cases hx hy with ⟨h1, h2⟩ | ⟨h1, h2, h3⟩ | ⟨h1, h2⟩
      · rw [h1]
        rcases h2 with h2 | ⟨h2, h3⟩
        · rw [if_pos h2]; rfl
        · rw [if_neg (by omega), if_neg (by omega), if_pos h3]; rfl
      · rw [h1, if_neg (by omega), if_neg (by omega), if_neg (by omega), if_neg (by omega)]
        rcases minus_sgn hx hy h2 with ⟨m1, m2⟩ | ⟨m1, m2, m3⟩ | ⟨m1, m2, m3⟩
        · rw [if_neg (by omega), if_neg (by omega), m1]; cases minusB y <;> rfl
        · rw [if_pos m3, m1, m2]; rfl
        · rw [if_neg (by omega), if_pos m3, m1, m2]; rfl
      · rw [h1]
        rcases h2 with h2 | ⟨h2, h3⟩
        · rw [if_neg (by omega), if_pos h2]; rfl
        · rw [if_neg (by omega), if_neg (by omega), if_neg (by omega), if_pos h3]; rfl
end Fl
open Fl
theorem None_c (x : Nat) (w : World) : Calls Try.prog 22 #[.float .f64 x] w fun e w' => e = .returned (.bool (nanB x)) ∧ w' = w := by
  go_enter Try.func22, Try.ntmps22
  go_wp2
  go_ret
  exact ⟨ret_bool (ne_self x), rfl⟩
theorem Inf_c (b : Bool) (w : World) : Calls Try.prog 32 #[.bool b] w fun e w' => e = .returned (.float .f64 (infW b)) ∧ w' = w := by
  have h1 := run_float_arith (P := Try.prog) w .quo 27 .f64 4607182418800017408 0 (infW false) (by decide +kernel)
  have h2 := run_float_arith (P := Try.prog) w .quo 27 .f64 13830554455654793216 0 (infW true) (by decide +kernel)
  cases b
  all_goals (
    go_enter Try.func32, Try.ntmps32
    go_wp2
    go_ret
    exact ⟨rfl, rfl⟩)
theorem Minus_c (x : Nat) (w : World) : Calls Try.prog 33 #[.float .f64 x] w fun e w' => e = .returned (.bool (minusB x)) ∧ w' = w := by
  rcases minus_cases x with ⟨h1, h2⟩ | ⟨s, h1, h2, h3⟩ | ⟨h1, h2, h3⟩
  · have e1 : (FloatKind.f64.format.order x 0 == some .lt) = true := by rw [h1]; rfl
    have H2 : Hid (minusB x = true) := h2
    clear h1 h2
    go_enter Try.func33, Try.ntmps33
    go_wp2
    go_ret
    exact ⟨ret_bool H2.out.symm, rfl⟩
  · have e1 : (FloatKind.f64.format.order x 0 == some .lt) = false := by rw [h1]; rfl
    have e2 : (FloatKind.f64.format.order x 0 == some .eq) = true := by rw [h1]; rfl
    have e3 := run_float_arith (P := Try.prog) w .quo 27 .f64 4607182418800017408 x (infW s) h2
    have e4 := inf_lt s
    have H3 : Hid (minusB x = s) := h3
    clear h1 h2 h3
    go_enter Try.func33, Try.ntmps33
    go_wp2
    all_goals (
      go_ret
      exact ⟨ret_bool (by first | exact H3.out.symm | (rw [H3.out]; assumption) | (rw [H3.out]; rfl)), rfl⟩)
  · have e1 : (FloatKind.f64.format.order x 0 == some .lt) = false := by cases h : FloatKind.f64.format.order x 0 == some .lt with | false => rfl | true => exact absurd (eq_of_beq h) h1
    have e2 : (FloatKind.f64.format.order x 0 == some .eq) = false := by cases h : FloatKind.f64.format.order x 0 == some .eq with | false => rfl | true => exact absurd (eq_of_beq h) h2
    have H3 : Hid (minusB x = false) := h3
    clear h1 h2 h3
    go_enter Try.func33, Try.ntmps33
    go_wp2
    go_ret
    exact ⟨ret_bool H3.out.symm, rfl⟩
end Go.Proofs.Ytiecneefommdlaa
