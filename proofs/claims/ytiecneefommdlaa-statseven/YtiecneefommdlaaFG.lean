/- Layer 20: the document's Mills. -/
import Derived.Test.YtiecneefommdlaaFE
namespace Go.Proofs.Ytiecneefommdlaa
set_option maxRecDepth 100000
open Go.RowKit Lg Nl Go.Maps Fl
set_option linter.unusedVariables false
set_option linter.unusedSimpArgs false

namespace Fl
open Ieee
theorem lp_is : lp = -1074 := by decide +kernel
theorem rd_p53 : rd 4845873199050653696 = .number false 4503599627370496 1 := by decide +kernel
theorem rd_n53 : rd 14069245235905429504 = .number true 4503599627370496 1 := by decide +kernel
theorem rd_1000 : rd 4652007308841189376 = .number false 8796093022208000 (-43) := by decide +kernel
theorem mul_eq (x y : Nat) : floatBits .mul .f64 x y = ((rd x).product (rd y)).map double.write := rfl
theorem val_mag (s : Bool) (m : Nat) (i : Int) : (valD (.number s m i)).natAbs = m * 2 ^ (i - lp).toNat := by
  show (signed s m (i - lp).toNat).natAbs = _
  unfold signed
  rw [Nat.shiftLeft_eq]
  cases s
  · exact Int.natAbs_natCast _
  · show (-((m * 2 ^ (i - lp).toNat : Nat) : Int)).natAbs = _
    rw [Int.natAbs_neg]; exact Int.natAbs_natCast _
theorem cut_le {s : Bool} {m Q : Nat} {i : Int} (hi : -(Q : Int) ≤ i) (h : m * 2 ^ (i + Q).toNat ≤ 4503599627370496 * 2 ^ (Q + 1)) : Toward.zero.cut s (m <<< i.toNat) (-i).toNat ≤ 9007199254740992 := by
  have hc : Toward.zero.cut s (m <<< i.toNat) (-i).toNat = (m <<< i.toNat) / (1 <<< min (-i).toNat ((m <<< i.toNat).log2 + 2)) := by
    unfold Toward.cut
    simp
  have hq : 4503599627370496 * 2 ^ (Q + 1) = 9007199254740992 * 2 ^ Q := by rw [Nat.pow_succ]; omega
  rw [hq] at h
  rw [hc, Nat.one_shiftLeft]
  by_cases h0 : 0 ≤ i
  · have e1 : (-i).toNat = 0 := by omega
    rw [e1, Nat.zero_min, Nat.pow_zero, Nat.div_one, Nat.shiftLeft_eq]
    have e2 : (i + Q).toNat = i.toNat + Q := by omega
    rw [e2, Nat.pow_add, ← Nat.mul_assoc] at h
    exact Nat.le_of_mul_le_mul_right h (Nat.two_pow_pos _)
  · have e1 : i.toNat = 0 := by omega
    rw [e1, Nat.shiftLeft_zero]
    by_cases h1 : (-i).toNat ≤ m.log2 + 2
    · rw [Nat.min_eq_left h1]
      have e2 : (-i).toNat + (i + Q).toNat = Q := by omega
      refine Nat.div_le_of_le_mul ?_
      have h2 : m * 2 ^ (i + Q).toNat ≤ (2 ^ (-i).toNat * 9007199254740992) * 2 ^ (i + Q).toNat := by
        refine Nat.le_trans h (Nat.le_of_eq ?_)
        rw [Nat.mul_comm (2 ^ (-i).toNat), Nat.mul_assoc, ← Nat.pow_add, e2]
      exact Nat.le_of_mul_le_mul_right h2 (Nat.two_pow_pos _)
    · rw [Nat.min_eq_right (by omega)]
      have h3 : m < 2 ^ (m.log2 + 2) := by
        refine Nat.lt_of_lt_of_le (Nat.lt_log2_self (n := m)) ?_
        exact Nat.pow_le_pow_right (by decide) (by omega)
      rw [Nat.div_eq_of_lt h3]
      exact Nat.zero_le _
/-- what is behind the point cut off -/
theorem int_some {y : Nat} (hn : nanB y = false) (h1 : FloatKind.f64.format.order y 4845873199050653696 ≠ some .gt) (h2 : FloatKind.f64.format.order y 14069245235905429504 ≠ some .lt) : ∃ k, floatToIntVal .f64 y .i64 = some k := by
  have iy := rd_in y
  rw [ord_eq, rd_p53] at h1
  rw [ord_eq, rd_n53] at h2
  rcases not_nan hn with ⟨s, m, i, e⟩ | ⟨s, e⟩
  · rw [e] at iy h1 h2
    rw [ord_num iy (by rw [lp_is]; decide)] at h1 h2
    have k1 : valD (.number s m i) ≤ valD (.number false 4503599627370496 1) := by
      rcases Int.lt_or_le (valD (.number false 4503599627370496 1)) (valD (.number s m i)) with h | h
      · exact absurd (by rw [Int.compare_eq_gt.2 h]) h1
      · exact h
    have k2 : valD (.number true 4503599627370496 1) ≤ valD (.number s m i) := by
      rcases Int.lt_or_le (valD (.number s m i)) (valD (.number true 4503599627370496 1)) with h | h
      · exact absurd (by rw [Int.compare_eq_lt.2 h]) h2
      · exact h
    have a1 := val_mag s m i
    have a2 := val_mag false 4503599627370496 1
    have a3 := val_mag true 4503599627370496 1
    have s2 : 0 ≤ valD (.number false 4503599627370496 1) := by
      rcases Int.lt_or_le (valD (.number false 4503599627370496 1)) 0 with h | h
      · have := (signed_neg.1 h).1; cases this
      · exact h
    have hA : m * 2 ^ (i - lp).toNat ≤ 4503599627370496 * 2 ^ ((1 : Int) - lp).toNat := by
      rw [← a1, ← a2]
      have : (valD (.number true 4503599627370496 1)).natAbs = (valD (.number false 4503599627370496 1)).natAbs := by rw [a2, a3]
      omega
    obtain ⟨Q, hQ⟩ : ∃ Q : Nat, lp = -(Q : Int) := ⟨1074, lp_is⟩
    have hQi : -(Q : Int) ≤ i := by rw [← hQ]; exact iy
    rw [hQ, show (i - -(Q : Int)).toNat = (i + Q).toNat from by congr 1; omega, show ((1 : Int) - -(Q : Int)).toNat = Q + 1 from by omega] at hA
    have hc := cut_le (s := s) hQi hA
    unfold floatToIntVal
    have hd : FloatKind.f64.decode y = .number s m i := e
    rw [hd]
    have ht : (Datum.number s m i).toInt .zero = some (signed s (Toward.zero.cut s (m <<< i.toNat) (-i).toNat) 0) := rfl
    rw [ht]
    generalize Toward.zero.cut s (m <<< i.toNat) (-i).toNat = c at *
    have hs : signed s c 0 = if s then -(c : Int) else (c : Int) := by unfold signed; rw [Nat.shiftLeft_zero]
    show ∃ k, (if IntKind.i64.min ≤ signed s c 0 ∧ signed s c 0 ≤ IntKind.i64.max then some (signed s c 0) else none) = some k
    refine ⟨signed s c 0, if_pos ?_⟩
    rw [hs]
    have m1 : IntKind.i64.min = -9223372036854775808 := by decide
    have m2 : IntKind.i64.max = 9223372036854775807 := by decide
    rw [m1, m2]
    cases s
    · exact ⟨by show _ ≤ (c : Int); omega, by show (c : Int) ≤ _; omega⟩
    · exact ⟨by show _ ≤ -(c : Int); omega, by show -(c : Int) ≤ _; omega⟩
  · rw [e] at h1 h2
    cases s
    · exact absurd rfl h1
    · exact absurd rfl h2
/-- the thousandths of a float, and its kind -/
def milV (x : Nat) : Int × Int :=
  if nanB x then (0, 1) else if FloatKind.f64.format.order x (infW false) == some .eq then (0, 2) else if FloatKind.f64.format.order x (infW true) == some .eq then (0, 3)
  else match floatBits .mul .f64 x 4652007308841189376 with
    | none => (0, 0)
    | some y => if FloatKind.f64.format.order y 4845873199050653696 == some .gt || FloatKind.f64.format.order y 14069245235905429504 == some .lt then (0, 4) else ((floatToIntVal .f64 y .i64).getD 0, 0)
theorem inf_ord (s t : Bool) : (FloatKind.f64.format.order (infW s) (infW t) == some .eq) = (s == t) := by cases s <;> cases t <;> decide +kernel
theorem mul_1000 {x : Nat} (h0 : nanB x = false) (h1 : (FloatKind.f64.format.order x (infW false) == some .eq) = false) (h2 : (FloatKind.f64.format.order x (infW true) == some .eq) = false) : ∃ y, floatBits .mul .f64 x 4652007308841189376 = some y ∧ nanB y = false := by
  rw [mul_eq, rd_1000]
  rw [ord_eq, rd_inf] at h1 h2
  rcases not_nan h0 with ⟨s, m, i, e⟩ | ⟨s, e⟩
  · rw [e]; exact ⟨_, rfl, near_nan _ _ _⟩
  · rw [e] at h1 h2
    cases s
    · exact absurd h1 (by decide)
    · exact absurd h2 (by decide)
end Fl
set_option maxHeartbeats 1000000 in
theorem rMills_c (x : Nat) (w : World) : Calls Try.prog 19 #[.float .f64 x] w fun e w' => e = .returned (.tuple #[.int .i64 (milV x).1, .int .i64 (milV x).2]) ∧ w' = w := by
  have HN : Hid _ := None_c x
  cases h0 : nanB x with
  | true =>
    have HV : Hid (milV x = (0, 1)) := by unfold milV; rw [h0]; rfl
    rw [h0] at HN
    clear h0
    go_enter Try.func19, Try.ntmps19
    go_wp2_with (first
      | (go_at_call 22; refine (HN.out _).mono ?_; rintro e w' ⟨rfl, rfl⟩))
    go_ret2
    rw [HV.out]
    exact ⟨rfl, rfl⟩
  | false =>
    rw [h0] at HN
    cases h1 : FloatKind.f64.format.order x (infW false) == some .eq with
    | true =>
      have HV : Hid (milV x = (0, 2)) := by unfold milV; rw [h0, h1]; rfl
      clear h0
      go_enter Try.func19, Try.ntmps19
      go_wp2_with (first
        | (go_at_call 22; refine (HN.out _).mono ?_; rintro e w' ⟨rfl, rfl⟩)
        | (go_at_call 32; refine (Inf_c _ _).mono ?_; rintro e w' ⟨rfl, rfl⟩))
      go_ret2
      rw [HV.out]
      exact ⟨rfl, rfl⟩
    | false =>
      cases h2 : FloatKind.f64.format.order x (infW true) == some .eq with
      | true =>
        have HV : Hid (milV x = (0, 3)) := by unfold milV; rw [h0, h1, h2]; rfl
        clear h0
        go_enter Try.func19, Try.ntmps19
        go_wp2_with (first
          | (go_at_call 22; refine (HN.out _).mono ?_; rintro e w' ⟨rfl, rfl⟩)
          | (go_at_call 32; refine (Inf_c _ _).mono ?_; rintro e w' ⟨rfl, rfl⟩))
        go_ret2
        rw [HV.out]
        exact ⟨rfl, rfl⟩
      | false =>
        obtain ⟨y, hy, hyn⟩ := mul_1000 h0 h1 h2
        have hq := fun W => run_float_arith (P := Try.prog) W .mul 27 .f64 x 4652007308841189376 y hy
        cases h3 : FloatKind.f64.format.order y 4845873199050653696 == some .gt with
        | true =>
          have HV : Hid (milV x = (0, 4)) := by unfold milV; rw [h0, h1, h2, hy]; simp only [h3]; rfl
          clear h0 hy hyn
          go_enter Try.func19, Try.ntmps19
          go_wp2_with (first
            | (go_at_call 22; refine (HN.out _).mono ?_; rintro e w' ⟨rfl, rfl⟩)
            | (go_at_call 32; refine (Inf_c _ _).mono ?_; rintro e w' ⟨rfl, rfl⟩))
          go_ret2
          rw [HV.out]
          exact ⟨rfl, rfl⟩
        | false =>
          cases h4 : FloatKind.f64.format.order y 14069245235905429504 == some .lt with
          | true =>
            have HV : Hid (milV x = (0, 4)) := by unfold milV; rw [h0, h1, h2, hy]; simp only [h3, h4]; rfl
            clear h0 hy hyn
            go_enter Try.func19, Try.ntmps19
            go_wp2_with (first
              | (go_at_call 22; refine (HN.out _).mono ?_; rintro e w' ⟨rfl, rfl⟩)
              | (go_at_call 32; refine (Inf_c _ _).mono ?_; rintro e w' ⟨rfl, rfl⟩))
            go_ret2
            rw [HV.out]
            exact ⟨rfl, rfl⟩
          | false =>
            obtain ⟨k, hk⟩ := int_some hyn (fun e => by rw [e] at h3; cases h3) (fun e => by rw [e] at h4; cases h4)
            have hcv := fun W => run_convert_float_int (P := Try.prog) W 27 3 .f64 .i64 y k (by kernel_rfl) (by kernel_rfl) hk
            have HV : Hid (milV x = (k, 0)) := by unfold milV; rw [h0, h1, h2, hy]; simp only [h3, h4, hk]; rfl
            clear h0 hy hyn hk
            go_enter Try.func19, Try.ntmps19
            go_wp2_with (first
              | (go_at_call 22; refine (HN.out _).mono ?_; rintro e w' ⟨rfl, rfl⟩)
              | (go_at_call 32; refine (Inf_c _ _).mono ?_; rintro e w' ⟨rfl, rfl⟩))
            go_ret2
            rw [HV.out]
            exact ⟨rfl, rfl⟩
end Go.Proofs.Ytiecneefommdlaa
