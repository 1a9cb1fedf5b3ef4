/- Layer 20: the document's Same and Order; a quotient of any two floats; floats out of numbers. -/
import Derived.Test.YtiecneefommdlaaFB
import Derived.Test.YtiecneefommdlaaGKa
namespace Go.Proofs.Ytiecneefommdlaa
set_option maxRecDepth 100000
open Go.RowKit Lg Nl Go.Maps Fl
set_option linter.unusedVariables false
set_option linter.unusedSimpArgs false

theorem Same_c (x y : Nat) (w : World) : Calls Try.prog 14 #[.float .f64 x, .float .f64 y] w fun e w' => e = .returned (.bool (sameB x y)) ∧ w' = w := by
  have HS : Hid _ := same_is x y
  have HNx : Hid _ := None_c x
  have HNy : Hid _ := None_c y
  have HMx : Hid _ := Minus_c x
  have HMy : Hid _ := Minus_c y
  generalize sameB x y = r at *
  generalize nanB x = n1 at *
  generalize nanB y = n2 at *
  generalize minusB x = m1 at *
  generalize minusB y = m2 at *
  generalize hc : (FloatKind.f64.format.order x y == some .eq) = c at *
  cases n1 <;> cases n2 <;> cases c <;> cases m1 <;> cases m2
  all_goals (
    go_enter Try.func14, Try.ntmps14
    go_wp2_with (first
      | (go_at_call_of 22 (Value.float FloatKind.f64 x); refine (HNx.out _).mono ?_; rintro e w' ⟨rfl, rfl⟩)
      | (go_at_call_of 22 (Value.float FloatKind.f64 y); refine (HNy.out _).mono ?_; rintro e w' ⟨rfl, rfl⟩)
      | (go_at_call_of 33 (Value.float FloatKind.f64 x); refine (HMx.out _).mono ?_; rintro e w' ⟨rfl, rfl⟩)
      | (go_at_call_of 33 (Value.float FloatKind.f64 y); refine (HMy.out _).mono ?_; rintro e w' ⟨rfl, rfl⟩))
    go_ret
    exact ⟨ret_bool HS.out.symm, rfl⟩)
set_option maxHeartbeats 1000000 in
theorem Order_c (x y : Nat) (w : World) : Calls Try.prog 18 #[.float .f64 x, .float .f64 y] w fun e w' => e = .returned (.int .i64 (ordI x y)) ∧ w' = w := by
  have HS : Hid _ := ord_is x y
  have HNx : Hid _ := None_c x
  have HNy : Hid _ := None_c y
  have HMx : Hid _ := Minus_c x
  have HMy : Hid _ := Minus_c y
  generalize ordI x y = r at *
  generalize nanB x = n1 at *
  generalize nanB y = n2 at *
  generalize minusB x = m1 at *
  generalize minusB y = m2 at *
  generalize hc : (FloatKind.f64.format.order x y == some .lt) = c at *
  generalize hd : (FloatKind.f64.format.order x y == some .gt) = d at *
  cases n1
  · cases n2
    · cases c
      · cases d
        · cases m1 <;> cases m2
          all_goals (
            go_enter Try.func18, Try.ntmps18
            go_wp2_with (first
              | (go_at_call_of 22 (Value.float FloatKind.f64 x); refine (HNx.out _).mono ?_; rintro e w' ⟨rfl, rfl⟩)
              | (go_at_call_of 22 (Value.float FloatKind.f64 y); refine (HNy.out _).mono ?_; rintro e w' ⟨rfl, rfl⟩)
              | (go_at_call_of 33 (Value.float FloatKind.f64 x); refine (HMx.out _).mono ?_; rintro e w' ⟨rfl, rfl⟩)
              | (go_at_call_of 33 (Value.float FloatKind.f64 y); refine (HMy.out _).mono ?_; rintro e w' ⟨rfl, rfl⟩))
            go_ret
            exact ⟨by rw [HS.out]; rfl, rfl⟩)
        · go_enter Try.func18, Try.ntmps18
          go_wp2_with (first
            | (go_at_call_of 22 (Value.float FloatKind.f64 x); refine (HNx.out _).mono ?_; rintro e w' ⟨rfl, rfl⟩)
            | (go_at_call_of 22 (Value.float FloatKind.f64 y); refine (HNy.out _).mono ?_; rintro e w' ⟨rfl, rfl⟩)
            | (go_at_call_of 33 (Value.float FloatKind.f64 x); refine (HMx.out _).mono ?_; rintro e w' ⟨rfl, rfl⟩)
            | (go_at_call_of 33 (Value.float FloatKind.f64 y); refine (HMy.out _).mono ?_; rintro e w' ⟨rfl, rfl⟩))
          go_ret
          exact ⟨by rw [HS.out]; rfl, rfl⟩
      · go_enter Try.func18, Try.ntmps18
        go_wp2_with (first
          | (go_at_call_of 22 (Value.float FloatKind.f64 x); refine (HNx.out _).mono ?_; rintro e w' ⟨rfl, rfl⟩)
          | (go_at_call_of 22 (Value.float FloatKind.f64 y); refine (HNy.out _).mono ?_; rintro e w' ⟨rfl, rfl⟩)
          | (go_at_call_of 33 (Value.float FloatKind.f64 x); refine (HMx.out _).mono ?_; rintro e w' ⟨rfl, rfl⟩)
          | (go_at_call_of 33 (Value.float FloatKind.f64 y); refine (HMy.out _).mono ?_; rintro e w' ⟨rfl, rfl⟩))
        go_ret
        exact ⟨by rw [HS.out]; rfl, rfl⟩
    · go_enter Try.func18, Try.ntmps18
      go_wp2_with (first
        | (go_at_call_of 22 (Value.float FloatKind.f64 x); refine (HNx.out _).mono ?_; rintro e w' ⟨rfl, rfl⟩)
        | (go_at_call_of 22 (Value.float FloatKind.f64 y); refine (HNy.out _).mono ?_; rintro e w' ⟨rfl, rfl⟩)
        | (go_at_call_of 33 (Value.float FloatKind.f64 x); refine (HMx.out _).mono ?_; rintro e w' ⟨rfl, rfl⟩)
        | (go_at_call_of 33 (Value.float FloatKind.f64 y); refine (HMy.out _).mono ?_; rintro e w' ⟨rfl, rfl⟩))
      go_ret
      exact ⟨by rw [HS.out]; rfl, rfl⟩
  · cases n2
    · go_enter Try.func18, Try.ntmps18
      go_wp2_with (first
        | (go_at_call_of 22 (Value.float FloatKind.f64 x); refine (HNx.out _).mono ?_; rintro e w' ⟨rfl, rfl⟩)
        | (go_at_call_of 22 (Value.float FloatKind.f64 y); refine (HNy.out _).mono ?_; rintro e w' ⟨rfl, rfl⟩)
        | (go_at_call_of 33 (Value.float FloatKind.f64 x); refine (HMx.out _).mono ?_; rintro e w' ⟨rfl, rfl⟩)
        | (go_at_call_of 33 (Value.float FloatKind.f64 y); refine (HMy.out _).mono ?_; rintro e w' ⟨rfl, rfl⟩))
      go_ret
      exact ⟨by rw [HS.out]; rfl, rfl⟩
    · go_enter Try.func18, Try.ntmps18
      go_wp2_with (first
        | (go_at_call_of 22 (Value.float FloatKind.f64 x); refine (HNx.out _).mono ?_; rintro e w' ⟨rfl, rfl⟩)
        | (go_at_call_of 22 (Value.float FloatKind.f64 y); refine (HNy.out _).mono ?_; rintro e w' ⟨rfl, rfl⟩)
        | (go_at_call_of 33 (Value.float FloatKind.f64 x); refine (HMx.out _).mono ?_; rintro e w' ⟨rfl, rfl⟩)
        | (go_at_call_of 33 (Value.float FloatKind.f64 y); refine (HMy.out _).mono ?_; rintro e w' ⟨rfl, rfl⟩))
      go_ret
      exact ⟨by rw [HS.out]; rfl, rfl⟩
namespace Fl
/-- the bits of a result that is no number, as they are drawn -/
def nanW (q : Question) (w : World) : Nat := q.cut (w.tape w.drawn q)
theorem nan_nanW (x y : Nat) (w : World) : nanB (nanW (.nanBits .f64 x y) w) = true := by
  unfold nanW
  generalize w.tape w.drawn (.nanBits .f64 x y) = t
  show (rd ((t % 2) * 2 ^ 63 + 0x7ff0000000000000 + 1 + (t / 2) % (2 ^ 52 - 1))).isNaN = true
  have h1 : t % 2 < 2 := Nat.mod_lt _ (by decide)
  have h2 : (t / 2) % (2 ^ 52 - 1) < 2 ^ 52 - 1 := Nat.mod_lt _ (by decide)
  generalize t % 2 = a at *
  generalize (t / 2) % (2 ^ 52 - 1) = b at *
  unfold rd Ieee.Format.read
  have e1 : Ieee.double.signWeight = 9223372036854775808 := rfl
  have e2 : Ieee.double.binade = 4503599627370496 := rfl
  have e3 : Ieee.double.infRung = 9218868437227405312 := rfl
  simp only [e1, e2, e3]
  have e4 : (a * 2 ^ 63 + 0x7ff0000000000000 + 1 + b) % 9223372036854775808 = 0x7ff0000000000000 + 1 + b := by omega
  rw [e4, if_neg (by omega), if_neg (by omega), if_neg (by omega)]
  rfl
theorem run_quo_nan {P : Program} (t : TypeId) (x y : Nat) (h : floatBits .quo .f64 x y = none) (w : World) : (binOp .quo t (.float .f64 x) (.float .f64 y)).run P w = .ok (.float .f64 (nanW (.nanBits .f64 x y) w)) w.drew := by
  have h' : FloatKind.f64.format.div x y = none := h
  simp [binOp, Op.floatArith, h']
  rfl
end Fl
end Go.Proofs.Ytiecneefommdlaa
