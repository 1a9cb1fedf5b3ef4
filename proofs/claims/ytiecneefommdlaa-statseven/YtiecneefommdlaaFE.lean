/- Layer 20: what the program's functions are to tell of floats; StatsRatios, walked over it. -/
import Derived.Test.YtiecneefommdlaaFD
namespace Go.Proofs.Ytiecneefommdlaa
set_option maxRecDepth 100000
open Go.RowKit Lg Nl Go.Maps Fl
set_option linter.unusedVariables false
set_option linter.unusedSimpArgs false

namespace Fl
def quoP (x y r : Nat) : Prop := floatBits .quo .f64 x y = some r ∨ floatBits .quo .f64 x y = none ∧ nanB r = true
theorem ordD_self (a : Ieee.Datum) : ordD a a = 0 := by
  unfold ordD
  rw [if_neg (by omega), if_neg (by omega), if_neg (by omega), if_neg (by omega), if_neg (by omega), if_neg (by omega)]
theorem same_refl (x : Nat) : sameB x x = true := decide_eq_true (ordD_self _)
theorem same_nan {x y : Nat} (hx : nanB x = true) (hy : nanB y = true) : sameB x y = true := by rw [same_is, hx, hy]; rfl
theorem quo_same {x y r r' : Nat} (h : quoP x y r) (h' : quoP x y r') : sameB r r' = true := by
  rcases h with h | ⟨h, hn⟩
  · rcases h' with h' | ⟨h', _⟩
    · rw [h] at h'; injection h' with h'; rw [h']; exact same_refl _
    · rw [h] at h'; cases h'
  · rcases h' with h' | ⟨h', hn'⟩
    · rw [h] at h'; cases h'
    · exact same_nan hn hn'
end Fl
def RatioC : Prop := ∀ (x y : Nat) (w : World), Calls Try.prog 16 #[.float .f64 x, .float .f64 y] w fun e w' => ∃ r, e = .returned (.float .f64 r) ∧ Hid (quoP x y r) ∧ Hid (r < 18446744073709551616) ∧ Below w.heap.size w w'
def OrderC : Prop := ∀ (x y : Nat) (w : World), Hid (x < 18446744073709551616) → Hid (y < 18446744073709551616) → Calls Try.prog 17 #[.float .f64 x, .float .f64 y] w fun e w' => e = .returned (.int .i64 (ordI x y)) ∧ Below w.heap.size w w'
def Aw20C : Prop := ∀ w : World, Calls Try.prog 12 #[] w fun e w' => e = .returned (.bool true) ∧ Below w.heap.size w w'
theorem same_t {x y : Nat} (h : sameB x y = true) (w : World) : Calls Try.prog 14 #[.float .f64 x, .float .f64 y] w fun e w' => e = .returned (.bool true) ∧ w' = w := by
  have := Same_c x y w
  rw [h] at this
  exact this
set_option maxHeartbeats 1000000 in
theorem StatsRatios_c (hR : RatioC) (hA : Aw20C) (a b : Int) (w : World) : Calls Try.prog 4 #[.int .i64 a, .int .i64 b] w fun e w' => e = .returned (.bool true) ∧ Below w.heap.size w w' := by
  have HR : Hid RatioC := hR
  have HA : Hid Aw20C := hA
  clear hR hA
  have HFa : Hid _ := floated_c a
  have HFb : Hid _ := floated_c b
  go_enter Try.func4, Try.ntmps4
  go_upto_region 2 with (first
    | (go_at_call 15; refine (HFb.out W1).mono ?_; rintro e w2 ⟨y, rfl, HY, HLy, hb2⟩)
    | (go_at_call 15; refine (HFa.out _).mono ?_; rintro e w1 ⟨x, rfl, HX, HLx, hb1⟩; obtain ⟨W1, hW1⟩ : ∃ W1, W1 = w1 := ⟨_, rfl⟩; rw [← hW1] at hb1 ⊢; clear hW1))
  clear HX HY HLx HLy
  cases hq : floatBits .quo .f64 x y with
  | some r =>
    have q1 := fun W => run_float_arith (P := Try.prog) W .quo 27 .f64 x y r hq
    have HQ : Hid (quoP x y r) := Or.inl hq
    clear hq
    go_wp2_with (first
      | (go_at_call 16; refine (HR.out x y _).mono ?_; rintro e w3 ⟨r', rfl, HQ', HL', hb3⟩)
      | (go_at_call 14; refine (same_t (quo_same HQ'.out HQ.out) _).mono ?_; rintro e w4 ⟨rfl, rfl⟩)
      | (go_at_call 12; refine (HA.out _).mono ?_; rintro e w5 ⟨rfl, hb5⟩))
    go_ret
    exact ⟨rfl, bel hb1 (bel hb2 (bel hb3 hb5))⟩
  | none =>
    have q1 := run_quo_nan (P := Try.prog) 27 x y hq
    have HQ : Hid (∀ W, quoP x y (nanW (.nanBits .f64 x y) W)) := fun W => Or.inr ⟨hq, nan_nanW _ _ _⟩
    clear hq
    go_wp2_with (first
      | (go_at_call 16; refine (HR.out x y _).mono ?_; rintro e w3 ⟨r', rfl, HQ', HL', hb3⟩)
      | (go_at_call 14; refine (same_t (quo_same HQ'.out (HQ.out _)) _).mono ?_; rintro e w4 ⟨rfl, rfl⟩)
      | (go_at_call 12; refine (HA.out _).mono ?_; rintro e w5 ⟨rfl, hb5⟩))
    go_ret
    exact ⟨rfl, bel hb1 (bel hb2 (bel hb3 (bel (Below.refl _ _).drew hb5)))⟩
end Go.Proofs.Ytiecneefommdlaa
