/- Layer 20: the landed Ratio and Order. -/
import Derived.Test.YtiecneefommdlaaFQ
import Derived.Laws.Externs
namespace Go.Proofs.Ytiecneefommdlaa
set_option maxRecDepth 100000
open Go.RowKit Lg Nl Go.Maps Fl
set_option linter.unusedVariables false
set_option linter.unusedSimpArgs false

theorem rat20 : RatioC := by
  intro x y w
  cases h : floatBits .quo .f64 x y with
  | some r =>
    have q := run_float_arith (P := Try.prog) w .quo 27 .f64 x y r h
    have HL : Hid _ := quo_lt h
    have HQ : Hid (quoP x y r) := Or.inl h
    clear h
    go_enter Try.func16, Try.ntmps16
    go_wp2
    go_ret
    exact ⟨r, rfl, HQ, HL, Below.refl _ _⟩
  | none =>
    have q := run_quo_nan (P := Try.prog) 27 x y h
    have HQ : Hid (∀ W, quoP x y (nanW (.nanBits .f64 x y) W)) := fun W => Or.inr ⟨h, nan_nanW _ _ _⟩
    clear h
    go_enter Try.func16, Try.ntmps16
    go_wp2
    go_ret
    exact ⟨_, rfl, HQ.out _, nanW_lt _ _ _, (Below.refl _ _).drew⟩
theorem isnan_c (x : Nat) (w : World) : Calls Try.prog 36 #[.float .f64 x] w fun e w' => e = .returned (.bool (nanB x)) ∧ w' = w := by
  go_enter Try.func36, Try.ntmps36
  go_wp2
  go_ret
  exact ⟨ret_bool (ne_self x), rfl⟩
theorem run_bits (x : Nat) (w : World) : (callFunc 42 #[.float .f64 x]).run Try.prog w = .ok (.value (.int .u64 x)) w := by
  rw [run_callFunc_extern Try.func42 (by kernel_rfl) (by kernel_rfl) (by kernel_rfl) (e := Extern.MathFloatBits.float64bits) (by kernel_rfl)]
  rfl
theorem isnan64_c (x : Int) (w : World) : Calls Try.prog 41 #[.int .i64 x] w fun e w' => e = .returned (.bool false) ∧ w' = w := by
  have e : (x != x) = false := by simp
  go_enter Try.func41, Try.ntmps41
  go_wp2
  go_ret
  exact ⟨ret_bool (by simp), rfl⟩
/-- how two numbers stand -/
def cm64 (x y : Int) : Int := if x < y then -1 else if y < x then 1 else 0
set_option maxHeartbeats 400000 in
theorem compare64_c (x y : Int) (w : World) : Calls Try.prog 34 #[.int .i64 x, .int .i64 y] w fun e w' => e = .returned (.int .i64 (cm64 x y)) ∧ w' = w := by
  go_enter Try.func34, Try.ntmps34
  go_wp2_with (first
    | (go_at_call 41; refine (isnan64_c _ _).mono ?_; rintro e w' ⟨rfl, rfl⟩))
  all_goals (go_ret; exact ⟨ret_int (by unfold cm64; repeat' split <;> omega), rfl⟩)
/-- a float's bits as a whole number with a sign -/
def b64 (x : Nat) : Int := if x < 9223372036854775808 then (x : Int) else (x : Int) - 18446744073709551616
theorem wrap_b64 {x : Nat} (h : x < 18446744073709551616) : IntKind.i64.wrap (x : Int) = b64 x := by
  rw [IntKind.wrap_i64]
  unfold b64
  split <;> omega
theorem b64_sign {x : Nat} (h : x < 18446744073709551616) : (b64 x < 0) ↔ 9223372036854775808 ≤ x := by
  unfold b64
  split <;> omega
theorem xor_low {r : Nat} (h : r < 2 ^ 63) : r ^^^ (2 ^ 63 - 1) = 2 ^ 63 - 1 - r := by
  have e1 : (BitVec.ofNat 63 r ^^^ BitVec.allOnes 63).toNat = r ^^^ (2 ^ 63 - 1) := by
    rw [BitVec.toNat_xor, BitVec.toNat_ofNat, BitVec.toNat_allOnes, Nat.mod_eq_of_lt h]
  have e2 : (BitVec.ofNat 63 r ^^^ BitVec.allOnes 63).toNat = 2 ^ 63 - 1 - r := by
    rw [BitVec.xor_allOnes, BitVec.toNat_not, BitVec.toNat_ofNat, Nat.mod_eq_of_lt h]
  rw [← e1, e2]
theorem xor_top {x : Nat} (h1 : 9223372036854775808 ≤ x) (h2 : x < 18446744073709551616) : bits .xor .i64 ((x : Int) - 18446744073709551616) 9223372036854775807 = 9223372036854775807 - (x : Int) := by
  have a1 : (BitVec.ofInt 64 ((x : Int) - 18446744073709551616)).toNat = x := by
    rw [BitVec.toNat_ofInt]
    have : ((x : Int) - 18446744073709551616) % ((2 ^ 64 : Nat) : Int) = (x : Int) := by
      show ((x : Int) - 18446744073709551616) % 18446744073709551616 = (x : Int)
      omega
    rw [this]; omega
  have a2 : (BitVec.ofInt 64 9223372036854775807).toNat = 2 ^ 63 - 1 := by decide
  have e : (BitVec.ofInt 64 ((x : Int) - 18446744073709551616) ^^^ BitVec.ofInt 64 9223372036854775807).toNat = 27670116110564327423 - x := by
    rw [BitVec.toNat_xor, a1, a2]
    have d := Nat.div_add_mod (x ^^^ (2 ^ 63 - 1)) (2 ^ 63)
    rw [Nat.xor_div_two_pow, Nat.xor_mod_two_pow] at d
    have m1 : x / 2 ^ 63 = 1 := by omega
    have m2 : (2 ^ 63 - 1) / 2 ^ 63 = 0 := by decide
    have m3 : (2 ^ 63 - 1) % 2 ^ 63 = 2 ^ 63 - 1 := by decide
    rw [m1, m2, m3, xor_low (Nat.mod_lt _ (by decide))] at d
    have m4 : x % 2 ^ 63 = x - 9223372036854775808 := by omega
    rw [m4] at d
    generalize x ^^^ (2 ^ 63 - 1) = z at *
    have m5 : (1 : Nat) ^^^ 0 = 1 := by decide
    rw [m5] at d
    omega
  show IntKind.i64.wrap ((BitVec.ofInt 64 ((x : Int) - 18446744073709551616) ^^^ BitVec.ofInt 64 9223372036854775807).toNat : Nat) = _
  rw [e, IntKind.wrap_i64]
  omega
theorem signbit_c {x : Nat} (h : x < 18446744073709551616) (w : World) : Calls Try.prog 43 #[.float .f64 x] w fun e w' => e = .returned (.bool (decide (9223372036854775808 ≤ x))) ∧ w' = w := by
  have hb := run_bits x
  have hw := wrap_b64 h
  have HS : Hid _ := b64_sign h
  clear h
  generalize b64 x = b at *
  go_enter Try.func43, Try.ntmps43
  go_wp2
  go_ret
  exact ⟨ret_bool (decide_eq_decide.2 HS.out), rfl⟩
theorem plc20 {x : Nat} (h : x < 18446744073709551616) (w : World) : Calls Try.prog 35 #[.float .f64 x] w fun e w' => e = .returned (.int .i64 (pl x)) ∧ w' = w := by
  have hb := run_bits x
  have hw := wrap_b64 h
  have HN : Hid _ := isnan_c x
  have HG : Hid _ := fun W => signbit_c h W
  cases hn : nanB x with
  | true =>
    have HP : Hid (pl x = 9223372036854775807) := by show pl x = _; unfold pl; rw [if_pos hn]
    rw [hn] at HN
    clear h hn hw
    go_enter Try.func35, Try.ntmps35
    go_wp2_with (first
      | (go_at_call 36; refine (HN.out _).mono ?_; rintro e w' ⟨rfl, rfl⟩))
    go_ret
    exact ⟨ret_int HP.out.symm, rfl⟩
  | false =>
    rw [hn] at HN
    by_cases hx : 9223372036854775808 ≤ x
    · have HP : Hid (pl x = 9223372036854775807 - (x : Int)) := by show pl x = _; unfold pl; rw [if_neg (show ¬ (nanB x = true) by rw [hn]; decide), if_neg (by omega)]
      have hxr : bits .xor .i64 (b64 x) 9223372036854775807 = pl x := by
        rw [HP.out, ← xor_top hx h]
        unfold b64
        rw [if_neg (by omega)]
      rw [decide_eq_true hx] at HG
      clear h hn hx HP
      generalize b64 x = b at *
      generalize pl x = p at *
      go_enter Try.func35, Try.ntmps35
      go_wp2_with (first
        | (go_at_call 36; refine (HN.out _).mono ?_; rintro e w' ⟨rfl, rfl⟩)
        | (go_at_call 43; refine (HG.out _).mono ?_; rintro e w' ⟨rfl, rfl⟩))
      go_ret
      exact ⟨rfl, rfl⟩
    · have HP : Hid (b64 x = pl x) := by
        show b64 x = pl x
        unfold pl b64
        rw [if_neg (show ¬ (nanB x = true) by rw [hn]; decide), if_pos (by omega), if_pos (by omega)]
      rw [decide_eq_false hx] at HG
      clear h hn hx
      generalize b64 x = b at *
      generalize pl x = p at *
      go_enter Try.func35, Try.ntmps35
      go_wp2_with (first
        | (go_at_call 36; refine (HN.out _).mono ?_; rintro e w' ⟨rfl, rfl⟩)
        | (go_at_call 43; refine (HG.out _).mono ?_; rintro e w' ⟨rfl, rfl⟩))
      go_ret
      exact ⟨ret_int HP.out, rfl⟩
theorem ord20 : OrderC := by
  intro x y w hx hy
  have HX : Hid _ := fun W => plc20 hx.out W
  have HY : Hid _ := fun W => plc20 hy.out W
  have HO : Hid (ordI x y = cm64 (pl x) (pl y)) := ord_pl hx.out hy.out
  clear hx hy
  go_enter Try.func17, Try.ntmps17
  go_wp2_with (first
    | (go_at_call_of 35 (Value.float FloatKind.f64 x); refine (HX.out _).mono ?_; rintro e w' ⟨rfl, rfl⟩)
    | (go_at_call_of 35 (Value.float FloatKind.f64 y); refine (HY.out _).mono ?_; rintro e w' ⟨rfl, rfl⟩)
    | (go_at_call 34; refine (compare64_c _ _ _).mono ?_; rintro e w' ⟨rfl, rfl⟩))
  go_ret
  exact ⟨ret_int HO.out.symm, Below.refl _ _⟩
end Go.Proofs.Ytiecneefommdlaa
