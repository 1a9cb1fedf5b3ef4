/- Layer 20: the landed Mills. -/
import Derived.Test.YtiecneefommdlaaFR
namespace Go.Proofs.Ytiecneefommdlaa
set_option maxRecDepth 100000
open Go.RowKit Lg Nl Go.Maps Fl
set_option linter.unusedVariables false
set_option linter.unusedSimpArgs false

namespace Fl
open Ieee
/-- a number lies below infinity -/
theorem num_rung {x : Nat} {s : Bool} {m : Nat} {i : Int} (h : rd x = .number s m i) : ∃ R, R < 9218868437227405312 ∧ lp ≤ i ∧ m * 2 ^ (i - lp).toNat = mg R := by
  rw [read_is x _ _ rfl rfl] at h
  generalize x % double.signWeight = r at *
  generalize (x / double.signWeight % 2 == 1) = n at *
  rw [bn_is, ir_is] at h
  by_cases h1 : r < 4503599627370496
  · rw [if_pos h1] at h
    injection h with _ h2 h3
    obtain ⟨m', i', e1, e2, e3⟩ := rd_rung false (r := r) (by omega)
    obtain ⟨a1, a2⟩ := word_sign false (r := r) (by rw [sw_is]; omega)
    rw [read_is _ _ _ a1 a2, bn_is, if_pos h1] at e1
    injection e1 with _ e4 e5
    subst h2 h3 e4 e5
    exact ⟨_, by omega, e2, e3⟩
  · by_cases h4 : r < 9218868437227405312
    · rw [if_neg h1, if_pos h4] at h
      injection h with _ h2 h3
      obtain ⟨m', i', e1, e2, e3⟩ := rd_rung false (r := r) h4
      obtain ⟨a1, a2⟩ := word_sign false (r := r) (by rw [sw_is]; omega)
      rw [read_is _ _ _ a1 a2, bn_is, ir_is, if_neg h1, if_pos h4] at e1
      injection e1 with _ e4 e5
      subst h2 h3
      rw [e4, e5]
      exact ⟨r, h4, e2, e3⟩
    · rw [if_neg h1, if_neg h4] at h
      split at h <;> cases h
theorem val_sv {s : Bool} {m : Nat} {i : Int} {R : Nat} (e : m * 2 ^ (i - lp).toNat = mg R) : valD (.number s m i) = sv s (mg R) := by
  show signed s m (i - lp).toNat = _
  rw [signed_sv, e]
theorem big_gt (d : Datum) (hd : ∀ s m i, d = .number s m i → ∃ R, R < 9218868437227405312 ∧ lp ≤ i ∧ m * 2 ^ (i - lp).toNat = mg R) : (d.order (rd 9218868437227405311) == some .gt) = (d.order (rd (infW false)) == some .eq) := by
  obtain ⟨m', i', e1, e2, e3⟩ := rd_rung false (r := 9218868437227405311) (by decide)
  rw [word_f] at e1
  rw [e1, rd_inf]
  cases d with
  | nan s f => rfl
  | infinity s => cases s <;> rfl
  | number s m i =>
    obtain ⟨R, r1, r2, r3⟩ := hd s m i rfl
    rw [ord_num r2 e2, val_sv r3, val_sv e3]
    have hm : mg R ≤ mg 9218868437227405311 := mg_le (by omega)
    have hn : sv s (mg R) ≤ sv false (mg 9218868437227405311) := by
      generalize mg R = a at *
      generalize mg 9218868437227405311 = b at *
      unfold sv
      cases s
      · simp <;> omega
      · simp <;> omega
    generalize sv s (mg R) = a at *
    generalize sv false (mg 9218868437227405311) = b at *
    rcases Int.lt_or_eq_of_le hn with h | h
    · rw [Int.compare_eq_lt.2 h]; rfl
    · rw [Int.compare_eq_eq.2 h]; rfl
theorem inf_up (x : Nat) : (FloatKind.f64.format.order x 9218868437227405311 == some .gt) = (FloatKind.f64.format.order x (infW false) == some .eq) := by
  rw [ord_eq, ord_eq]
  exact big_gt (rd x) fun s m i h => num_rung h
theorem inf_dn (x : Nat) : (FloatKind.f64.format.order (Op.negFloat .f64 x) 9218868437227405311 == some .gt) = (FloatKind.f64.format.order x (infW true) == some .eq) := by
  rw [ord_eq, ord_eq, rd_neg, big_gt (rd x).opposite fun s m i h => by
    cases hx : rd x with
    | nan s f => rw [hx] at h; cases h
    | infinity s => rw [hx] at h; cases h
    | number t n j =>
      rw [hx] at h
      injection h with _ h2 h3
      subst h2 h3
      exact num_rung hx]
  rw [rd_inf, rd_inf]
  cases rd x with
  | nan s f => rfl
  | infinity s => cases s <;> rfl
  | number s m i => rfl
end Fl
theorem isinf_up (x : Nat) (w : World) : Calls Try.prog 37 #[.float .f64 x, .int .i64 1] w fun e w' => e = .returned (.bool (FloatKind.f64.format.order x (infW false) == some .eq)) ∧ w' = w := by
  have H : Hid _ := inf_up x
  go_enter Try.func37, Try.ntmps37
  go_wp2
  go_ret
  exact ⟨ret_bool H.out, rfl⟩
theorem isinf_dn (x : Nat) (w : World) : Calls Try.prog 37 #[.float .f64 x, .int .i64 (-1)] w fun e w' => e = .returned (.bool (FloatKind.f64.format.order x (infW true) == some .eq)) ∧ w' = w := by
  have H : Hid _ := inf_dn x
  have un : ∀ (z : Nat) (W : World), (Op.unary .neg (.float .f64 z)).run Try.prog W = .ok (.float .f64 (Op.negFloat .f64 z)) W := fun z W => rfl
  go_enter Try.func37, Try.ntmps37
  go_wp2
  go_ret
  exact ⟨ret_bool H.out, rfl⟩
set_option maxHeartbeats 1000000 in
theorem mil20 : MillsC := by
  intro x w
  have HN : Hid _ := isnan_c x
  have HU : Hid _ := isinf_up x
  have HD : Hid _ := isinf_dn x
  cases h0 : nanB x with
  | true =>
    have HV : Hid (milV x = (0, 1)) := by unfold milV; rw [h0]; rfl
    rw [h0] at HN
    clear h0
    go_enter Try.func21, Try.ntmps21
    go_wp2_with (first
      | (go_at_call 36; refine (HN.out _).mono ?_; rintro e w' ⟨rfl, rfl⟩))
    go_ret2
    rw [HV.out]
    exact ⟨rfl, Below.refl _ _⟩
  | false =>
    rw [h0] at HN
    cases h1 : FloatKind.f64.format.order x (infW false) == some .eq with
    | true =>
      have HV : Hid (milV x = (0, 2)) := by unfold milV; rw [h0, h1]; rfl
      rw [h1] at HU
      clear h0 h1
      go_enter Try.func21, Try.ntmps21
      go_wp2_with (first
        | (go_at_call 36; refine (HN.out _).mono ?_; rintro e w' ⟨rfl, rfl⟩)
        | (go_at_call_of 37 (Value.int IntKind.i64 1); refine (HU.out _).mono ?_; rintro e w' ⟨rfl, rfl⟩))
      go_ret2
      rw [HV.out]
      exact ⟨rfl, Below.refl _ _⟩
    | false =>
      rw [h1] at HU
      cases h2 : FloatKind.f64.format.order x (infW true) == some .eq with
      | true =>
        have HV : Hid (milV x = (0, 3)) := by unfold milV; rw [h0, h1, h2]; rfl
        rw [h2] at HD
        clear h0 h1 h2
        go_enter Try.func21, Try.ntmps21
        go_wp2_with (first
          | (go_at_call 36; refine (HN.out _).mono ?_; rintro e w' ⟨rfl, rfl⟩)
          | (go_at_call_of 37 (Value.int IntKind.i64 1); refine (HU.out _).mono ?_; rintro e w' ⟨rfl, rfl⟩)
          | (go_at_call 37; refine (HD.out _).mono ?_; rintro e w' ⟨rfl, rfl⟩))
        go_ret2
        rw [HV.out]
        exact ⟨rfl, Below.refl _ _⟩
      | false =>
        rw [h2] at HD
        obtain ⟨y, hy, hyn⟩ := mul_1000 h0 h1 h2
        have hq := fun W => run_float_arith (P := Try.prog) W .mul 27 .f64 x 4652007308841189376 y hy
        cases h3 : FloatKind.f64.format.order y 4845873199050653696 == some .gt with
        | true =>
          have HV : Hid (milV x = (0, 4)) := by unfold milV; rw [h0, h1, h2, hy]; simp only [h3]; rfl
          clear h0 h1 h2 hy hyn
          go_enter Try.func21, Try.ntmps21
          go_wp2_with (first
            | (go_at_call 36; refine (HN.out _).mono ?_; rintro e w' ⟨rfl, rfl⟩)
            | (go_at_call_of 37 (Value.int IntKind.i64 1); refine (HU.out _).mono ?_; rintro e w' ⟨rfl, rfl⟩)
            | (go_at_call 37; refine (HD.out _).mono ?_; rintro e w' ⟨rfl, rfl⟩))
          go_ret2
          rw [HV.out]
          exact ⟨rfl, Below.refl _ _⟩
        | false =>
          cases h4 : FloatKind.f64.format.order y 14069245235905429504 == some .lt with
          | true =>
            have HV : Hid (milV x = (0, 4)) := by unfold milV; rw [h0, h1, h2, hy]; simp only [h3, h4]; rfl
            clear h0 h1 h2 hy hyn
            go_enter Try.func21, Try.ntmps21
            go_wp2_with (first
              | (go_at_call 36; refine (HN.out _).mono ?_; rintro e w' ⟨rfl, rfl⟩)
              | (go_at_call_of 37 (Value.int IntKind.i64 1); refine (HU.out _).mono ?_; rintro e w' ⟨rfl, rfl⟩)
              | (go_at_call 37; refine (HD.out _).mono ?_; rintro e w' ⟨rfl, rfl⟩))
            go_ret2
            rw [HV.out]
            exact ⟨rfl, Below.refl _ _⟩
          | false =>
            obtain ⟨k, hk⟩ := int_some hyn (fun e => by rw [e] at h3; cases h3) (fun e => by rw [e] at h4; cases h4)
            have hcv := fun W => run_convert_float_int (P := Try.prog) W 27 3 .f64 .i64 y k (by kernel_rfl) (by kernel_rfl) hk
            have HV : Hid (milV x = (k, 0)) := by unfold milV; rw [h0, h1, h2, hy]; simp only [h3, h4, hk]; rfl
            clear h0 h1 h2 hy hyn hk
            go_enter Try.func21, Try.ntmps21
            go_wp2_with (first
              | (go_at_call 36; refine (HN.out _).mono ?_; rintro e w' ⟨rfl, rfl⟩)
              | (go_at_call_of 37 (Value.int IntKind.i64 1); refine (HU.out _).mono ?_; rintro e w' ⟨rfl, rfl⟩)
              | (go_at_call 37; refine (HD.out _).mono ?_; rintro e w' ⟨rfl, rfl⟩))
            go_ret2
            rw [HV.out]
            exact ⟨rfl, Below.refl _ _⟩
end Go.Proofs.Ytiecneefommdlaa
