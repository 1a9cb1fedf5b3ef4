/- Layer 20: floats out of numbers. -/
import Derived.Test.YtiecneefommdlaaFC
import Derived.Deep.CutRange
import Derived.Deep.LoopGhost
import Derived.Deep.RegionHeld
import Derived.BigRegion
namespace Go.Proofs.Ytiecneefommdlaa
set_option maxRecDepth 100000
open Go.RowKit Lg Nl Go.Maps Fl
set_option linter.unusedVariables false
set_option linter.unusedSimpArgs false

theorem wrF (n : Int) (h₀ : 0 ≤ n) (h₁ : n < 2 ^ 63) : IntKind.i64.wrap n = n := by rw [IntKind.wrap_i64]; omega
theorem maskF (n : Int) (W M : Nat) (hW : W ≤ 62) (hM : M = 2 ^ W - 1) : bits .and .i64 n (M : Int) = n % ((2 ^ W : Nat) : Int) := by
  have hp : 0 < 2 ^ W := Nat.two_pow_pos W
  have hle : 2 ^ W ≤ 2 ^ 62 := Nat.pow_le_pow_right (by decide) hW
  have hm : (BitVec.ofInt 64 (M : Int)).toNat = 2 ^ W - 1 := by
    rw [BitVec.ofInt_natCast, BitVec.toNat_ofNat, hM]; exact Nat.mod_eq_of_lt (by omega)
  have key : (BitVec.ofInt 64 n &&& BitVec.ofInt 64 (M : Int)).toNat = (n % ((2 ^ 64 : Nat) : Int)).toNat % 2 ^ W := by
    rw [BitVec.toNat_and, BitVec.toNat_ofInt, hm, Nat.and_two_pow_sub_one_eq_mod]
  show IntKind.i64.wrap ((BitVec.ofInt 64 n &&& BitVec.ofInt 64 (M : Int)).toNat : Nat) = _
  have hlt : (n % ((2 ^ 64 : Nat) : Int)).toNat % 2 ^ W < 2 ^ W := Nat.mod_lt _ hp
  rw [key, wrF _ (by omega) (by omega), Int.natCast_emod, Int.toNat_of_nonneg (Int.emod_nonneg _ (by decide))]
  exact Int.emod_emod_of_dvd n (Int.natCast_dvd_natCast.2 (Nat.pow_dvd_pow 2 (by omega)))
theorem and15 (n : Int) : bits .and .i64 n 15 = n % 16 := maskF n 4 15 (by decide) (by decide)
namespace Fl
/-- a float out of a number -/
def fI (n : Int) : Nat := floatOfInt .f64 n
def flV (n : Int) (x : Nat) : Prop :=
  if n % 16 = 0 then nanB x = true else if n % 16 = 1 then x = infW false else if n % 16 = 2 then x = infW true else if n % 16 = 3 then x = 0
  else if n % 16 = 4 then x = 9223372036854775808 else if n % 16 = 5 then x = fI (n / 16)
  else if n % 16 = 6 then floatBits .quo .f64 4607182418800017408 (fI (n / 16)) = some x
  else floatBits .quo .f64 (fI (n / 16)) 4634204016564240384 = some x
theorem word_nan (s : Bool) {r : Nat} (h : r ≤ Ieee.double.infRung) : nanB (Ieee.double.word s r) = false := by
  have e1 : Ieee.double.signWeight = 9223372036854775808 := rfl
  have e2 : Ieee.double.binade = 4503599627370496 := rfl
  have e3 : Ieee.double.infRung = 9218868437227405312 := rfl
  rw [e3] at h
  unfold nanB rd Ieee.Format.read Ieee.Format.word
  simp only [e1, e2, e3]
  have e4 : (if s = true then 9223372036854775808 + r else r) % 9223372036854775808 = r := by split <;> omega
  rw [e4]
  split
  · rfl
  · split
    · rfl
    · split
      · rfl
      · omega
theorem near_nan (s : Bool) (m : Nat) (i : Int) : nanB (Ieee.double.nearest s m i) = false := by
  unfold Ieee.Format.nearest
  split
  · exact word_nan s (Nat.zero_le _)
  · exact word_nan s (Nat.min_le_right _ _)
theorem fI_nan (n : Int) : nanB (fI n) = false := near_nan _ _ _
theorem not_nan {x : Nat} (h : nanB x = false) : (∃ s m i, rd x = .number s m i) ∨ (∃ s, rd x = .infinity s) := by
  unfold nanB at h
  cases h1 : rd x with
  | nan s f => rw [h1] at h; cases h
  | infinity s => exact Or.inr ⟨s, rfl⟩
  | number s m i => exact Or.inl ⟨s, m, i, rfl⟩
theorem rd_64 : rd 4634204016564240384 = .number false 4503599627370496 (-46) := by decide +kernel
theorem quot_nn (dg : Nat) (s t : Bool) (m n : Nat) (i j : Int) : Ieee.Datum.quotient dg (.number s m i) (.number t n j) = if n = 0 then (if m = 0 then none else some (.infinity (s ^^ t))) else some (.number (s ^^ t) (2 * ((m <<< (dg + n.log2 - m.log2)) / n) + ((m <<< (dg + n.log2 - m.log2)) % n != 0).toNat) (i - j - (dg + n.log2 - m.log2 : Nat) - 1)) := rfl
theorem quo_one (x : Nat) (h : nanB x = false) : ∃ r, floatBits .quo .f64 4607182418800017408 x = some r := by
  rw [div_eq, rd_one]
  rcases not_nan h with ⟨s, m, i, e⟩ | ⟨s, e⟩
  · rw [e, quot_nn]
    by_cases hm : m = 0
    · rw [if_pos hm, if_neg (by decide)]; exact ⟨_, rfl⟩
    · rw [if_neg hm]; exact ⟨_, rfl⟩
  · rw [e]; exact ⟨_, rfl⟩
theorem quo_64 (x : Nat) (h : nanB x = false) : ∃ r, floatBits .quo .f64 x 4634204016564240384 = some r := by
  rw [div_eq, rd_64]
  rcases not_nan h with ⟨s, m, i, e⟩ | ⟨s, e⟩
  · rw [e, quot_nn]
    rw [if_neg (by decide)]; exact ⟨_, rfl⟩
  · rw [e]; exact ⟨_, rfl⟩
end Fl
namespace Fl
theorem nanW_lt (x y : Nat) (w : World) : nanW (.nanBits .f64 x y) w < 18446744073709551616 := by
  unfold nanW
  generalize w.tape w.drawn (.nanBits .f64 x y) = t
  show (t % 2) * 2 ^ 63 + 0x7ff0000000000000 + 1 + (t / 2) % (2 ^ 52 - 1) < 18446744073709551616
  have h1 : t % 2 < 2 := Nat.mod_lt _ (by decide)
  have h2 : (t / 2) % (2 ^ 52 - 1) < 2 ^ 52 - 1 := Nat.mod_lt _ (by decide)
  generalize t % 2 = a at *
  generalize (t / 2) % (2 ^ 52 - 1) = b at *
  omega
theorem fI_lt (n : Int) : fI n < 18446744073709551616 := Ieee.Format.nearest_lt Ieee.double _ _ _
theorem quo_lt {x y r : Nat} (h : floatBits .quo .f64 x y = some r) : r < 18446744073709551616 := Ieee.Format.div_lt Ieee.double h
theorem infW_lt (s : Bool) : infW s < 18446744073709551616 := by cases s <;> decide
theorem lit_lt {x : Nat} (h : Nat.ble (x + 1) 18446744073709551616 = true) : x < 18446744073709551616 := Nat.le_of_ble_eq_true h
end Fl
set_option maxHeartbeats 1000000 in
theorem floated_c (n : Int) (w : World) : Calls Try.prog 15 #[.int .i64 n] w fun e w' => ∃ x, e = .returned (.float .f64 x) ∧ Hid (flV n x) ∧ Hid (x < 18446744073709551616) ∧ Below w.heap.size w w' := by
  obtain ⟨m, hm, hmn, h0, h1⟩ : ∃ m : Int, bits .and .i64 n 15 = m ∧ n % 16 = m ∧ 0 ≤ m ∧ m < 16 := ⟨n % 16, and15 n, rfl, by omega, by omega⟩
  have q0 := run_quo_nan (P := Try.prog) 27 0 0 (by decide +kernel)
  have q4 := fun W => run_float_arith (P := Try.prog) W .quo 27 .f64 13830554455654793216 (infW false) 9223372036854775808 (by decide +kernel)
  obtain ⟨r6, e6⟩ := quo_one (fI (n / 16)) (fI_nan _)
  obtain ⟨r7, e7⟩ := quo_64 (fI (n / 16)) (fI_nan _)
  have q6 := fun W => run_float_arith (P := Try.prog) W .quo 27 .f64 4607182418800017408 (floatOfInt .f64 (n / 16)) _ e6
  have q7 := fun W => run_float_arith (P := Try.prog) W .quo 27 .f64 (floatOfInt .f64 (n / 16)) 4634204016564240384 _ e7
  have HV : Hid (∀ x, flV n x ↔ (if m = 0 then nanB x = true else if m = 1 then x = infW false else if m = 2 then x = infW true else if m = 3 then x = 0
    else if m = 4 then x = 9223372036854775808 else if m = 5 then x = fI (n / 16)
    else if m = 6 then floatBits .quo .f64 4607182418800017408 (fI (n / 16)) = some x
    else floatBits .quo .f64 (fI (n / 16)) 4634204016564240384 = some x)) := fun x => by unfold flV; rw [hmn]
  have H6 : Hid _ := e6
  have H7 : Hid _ := e7
  clear e6 e7 hmn
  by_cases c0 : m = 0
  · subst c0
    go_enter Try.func15, Try.ntmps15
    go_wp2_with (first
      | (go_at_call 32; refine (Inf_c _ _).mono ?_; rintro e w5 ⟨rfl, rfl⟩))
    go_ret
    exact ⟨_, rfl, (HV.out _).2 (by first | rfl | exact nan_nanW _ _ _ | exact H6.out | exact H7.out), by first | exact nanW_lt _ _ _ | exact fI_lt _ | exact quo_lt H6.out | exact quo_lt H7.out | exact infW_lt _ | exact lit_lt rfl, by first | exact Below.refl _ _ | exact (Below.refl _ _).drew⟩
  by_cases c1 : m = 1
  · subst c1
    go_enter Try.func15, Try.ntmps15
    go_wp2_with (first
      | (go_at_call 32; refine (Inf_c _ _).mono ?_; rintro e w5 ⟨rfl, rfl⟩))
    go_ret
    exact ⟨_, rfl, (HV.out _).2 (by first | rfl | exact nan_nanW _ _ _ | exact H6.out | exact H7.out), by first | exact nanW_lt _ _ _ | exact fI_lt _ | exact quo_lt H6.out | exact quo_lt H7.out | exact infW_lt _ | exact lit_lt rfl, by first | exact Below.refl _ _ | exact (Below.refl _ _).drew⟩
  by_cases c2 : m = 2
  · subst c2
    go_enter Try.func15, Try.ntmps15
    go_wp2_with (first
      | (go_at_call 32; refine (Inf_c _ _).mono ?_; rintro e w5 ⟨rfl, rfl⟩))
    go_ret
    exact ⟨_, rfl, (HV.out _).2 (by first | rfl | exact nan_nanW _ _ _ | exact H6.out | exact H7.out), by first | exact nanW_lt _ _ _ | exact fI_lt _ | exact quo_lt H6.out | exact quo_lt H7.out | exact infW_lt _ | exact lit_lt rfl, by first | exact Below.refl _ _ | exact (Below.refl _ _).drew⟩
  by_cases c3 : m = 3
  · subst c3
    go_enter Try.func15, Try.ntmps15
    go_wp2_with (first
      | (go_at_call 32; refine (Inf_c _ _).mono ?_; rintro e w5 ⟨rfl, rfl⟩))
    go_ret
    exact ⟨_, rfl, (HV.out _).2 (by first | rfl | exact nan_nanW _ _ _ | exact H6.out | exact H7.out), by first | exact nanW_lt _ _ _ | exact fI_lt _ | exact quo_lt H6.out | exact quo_lt H7.out | exact infW_lt _ | exact lit_lt rfl, by first | exact Below.refl _ _ | exact (Below.refl _ _).drew⟩
  by_cases c4 : m = 4
  · subst c4
    go_enter Try.func15, Try.ntmps15
    go_wp2_with (first
      | (go_at_call 32; refine (Inf_c _ _).mono ?_; rintro e w5 ⟨rfl, rfl⟩))
    go_ret
    exact ⟨_, rfl, (HV.out _).2 (by first | rfl | exact nan_nanW _ _ _ | exact H6.out | exact H7.out), by first | exact nanW_lt _ _ _ | exact fI_lt _ | exact quo_lt H6.out | exact quo_lt H7.out | exact infW_lt _ | exact lit_lt rfl, by first | exact Below.refl _ _ | exact (Below.refl _ _).drew⟩
  by_cases c5 : m = 5
  · subst c5
    go_enter Try.func15, Try.ntmps15
    go_wp2_with (first
      | (go_at_call 32; refine (Inf_c _ _).mono ?_; rintro e w5 ⟨rfl, rfl⟩))
    go_ret
    exact ⟨_, rfl, (HV.out _).2 (by first | rfl | exact nan_nanW _ _ _ | exact H6.out | exact H7.out), by first | exact nanW_lt _ _ _ | exact fI_lt _ | exact quo_lt H6.out | exact quo_lt H7.out | exact infW_lt _ | exact lit_lt rfl, by first | exact Below.refl _ _ | exact (Below.refl _ _).drew⟩
  by_cases c6 : m = 6
  · subst c6
    go_enter Try.func15, Try.ntmps15
    go_wp2_with (first
      | (go_at_call 32; refine (Inf_c _ _).mono ?_; rintro e w5 ⟨rfl, rfl⟩))
    go_ret
    exact ⟨_, rfl, (HV.out _).2 (by first | rfl | exact nan_nanW _ _ _ | exact H6.out | exact H7.out), by first | exact nanW_lt _ _ _ | exact fI_lt _ | exact quo_lt H6.out | exact quo_lt H7.out | exact infW_lt _ | exact lit_lt rfl, by first | exact Below.refl _ _ | exact (Below.refl _ _).drew⟩
  go_enter Try.func15, Try.ntmps15
  go_wp2_with (first
    | (go_at_call 32; refine (Inf_c _ _).mono ?_; rintro e w5 ⟨rfl, rfl⟩))
  go_ret
  exact ⟨_, rfl, (HV.out _).2 (by rw [if_neg c0, if_neg c1, if_neg c2, if_neg c3, if_neg c4, if_neg c5, if_neg c6]; exact H7.out), quo_lt H7.out, Below.refl _ _⟩
end Go.Proofs.Ytiecneefommdlaa
