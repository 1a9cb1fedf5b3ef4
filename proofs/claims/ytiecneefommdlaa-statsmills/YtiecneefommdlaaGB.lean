/- Layer 20: StatsMills. -/
import Derived.Test.YtiecneefommdlaaGA
import Derived.Test.YtiecneefommdlaaFZ
namespace Go.Proofs.Ytiecneefommdlaa
set_option maxRecDepth 100000
open Go.RowKit Lg Nl Go.Maps Fl
set_option linter.unusedVariables false
set_option linter.unusedSimpArgs false

theorem mil_kind (x : Nat) : 0 ≤ (milV x).2 ∧ (milV x).2 ≤ 4 := by
  unfold milV
  repeat' split
  all_goals first | exact ⟨by decide, by decide⟩ | exact ⟨Int.le_refl 0, by show (0 : Int) ≤ 4; decide⟩
set_option maxHeartbeats 1000000 in
theorem StatsMills_c (a b : Int) (w : World) : Calls Try.prog 6 #[.int .i64 a, .int .i64 b] w fun e w' => e = .returned (.bool true) ∧ Below w.heap.size w w' := by
  have HA : Hid Aw20C := aw20
  have HFa : Hid _ := floated_c a
  have HFb : Hid _ := floated_c b
  go_enter Try.func6, Try.ntmps6
  go_upto_region 2 with (first
    | (go_at_call 15; refine (HFb.out W1).mono ?_; rintro e w2 ⟨y, rfl, HY, HLy, hb2⟩)
    | (go_at_call 15; refine (HFa.out _).mono ?_; rintro e w1 ⟨x, rfl, HX, HLx, hb1⟩; obtain ⟨W1, hW1⟩ : ∃ W1, W1 = w1 := ⟨_, rfl⟩; rw [← hW1] at hb1 ⊢; clear hW1))
  clear HX HY HFa HFb
  have HBw : Hid (Below w.heap.size w w2) := bel hb1 hb2
  clear hb1 hb2
  obtain ⟨m, j, hmx⟩ : ∃ m j, milV x = (m, j) := ⟨_, _, rfl⟩
  obtain ⟨n, k, hmy⟩ : ∃ n k, milV y = (n, k) := ⟨_, _, rfl⟩
  have hkx := mil_kind x
  have hky := mil_kind y
  rw [hmx] at hkx
  rw [hmy] at hky
  have HRx : Hid (∀ W, Calls Try.prog 19 #[.float .f64 x] W fun e w' => e = .returned (.tuple #[.int .i64 m, .int .i64 j]) ∧ w' = W) := fun W => by have := rMills_c x W; rw [hmx] at this; exact this
  have HRy : Hid (∀ W, Calls Try.prog 19 #[.float .f64 y] W fun e w' => e = .returned (.tuple #[.int .i64 n, .int .i64 k]) ∧ w' = W) := fun W => by have := rMills_c y W; rw [hmy] at this; exact this
  have HPx : Hid (∀ W : World, Calls Try.prog 21 #[.float .f64 x] W fun e w' => e = .returned (.tuple #[.int .i64 m, .int .i64 j]) ∧ Below W.heap.size W w') := fun W => by have := mil20 x W; rw [hmx] at this; exact this
  have HPy : Hid (∀ W : World, Calls Try.prog 21 #[.float .f64 y] W fun e w' => e = .returned (.tuple #[.int .i64 n, .int .i64 k]) ∧ Below W.heap.size W w') := fun W => by have := mil20 y W; rw [hmy] at this; exact this
  have HMx : Hid _ := mills_yes mil20 hmx
  have HMy : Hid _ := mills_yes mil20 hmy
  have HOr : Hid (∀ W : World, Calls Try.prog 17 #[.float .f64 x, .float .f64 y] W fun e w' => e = .returned (.int .i64 (ordI x y)) ∧ Below W.heap.size W w') := fun W => ord20 x y W HLx HLy
  have HMo : Hid (j = 0 → k = 0 → ordI x y ≤ 0 → m ≤ n) := fun hj hk ho => by subst hj hk; exact mil_mono HLx.out HLy.out hmx hmy ho
  have hwj : wrap64 (j + k) = j + k := by unfold wrap64; have h1 := hkx.1; have h2 := hkx.2; have h3 := hky.1; have h4 := hky.2; simp only at h1 h2 h3 h4; omega
  have hj0 : 0 ≤ j := hkx.1
  have hk0 : 0 ≤ k := hky.1
  clear hmx hmy hkx hky HLx HLy
  generalize ordI x y = o at *
  by_cases hjk : 0 < j + k
  · go_wp2_with (first
      | (go_at_call_of 19 (Value.float FloatKind.f64 x); refine (HRx.out _).mono ?_; rintro e w' ⟨rfl, rfl⟩)
      | (go_at_call 19; refine (HRy.out _).mono ?_; rintro e w' ⟨rfl, rfl⟩)
      | (go_at_call_of 20 (Value.float FloatKind.f64 x); refine (HMx.out _).mono ?_; rintro e w3 ⟨rfl, hb3⟩)
      | (go_at_call 20; refine (HMy.out _).mono ?_; rintro e w4 ⟨rfl, hb4⟩)
      | (go_at_call_of 21 (Value.float FloatKind.f64 x); refine (HPx.out _).mono ?_; rintro e w5 ⟨rfl, hb5⟩)
      | (go_at_call 21; refine (HPy.out _).mono ?_; rintro e w6 ⟨rfl, hb6⟩)
      | (go_at_call 12; refine (HA.out _).mono ?_; rintro e w7 ⟨rfl, hb7⟩))
    go_ret
    exact ⟨rfl, bel HBw.out (bel hb3 (bel hb4 (bel hb5 (bel hb6 hb7))))⟩
  · obtain rfl : j = 0 := by omega
    obtain rfl : k = 0 := by omega
    by_cases ho : 0 < o
    · clear HMo
      go_wp2_with (first
        | (go_at_call_of 19 (Value.float FloatKind.f64 x); refine (HRx.out _).mono ?_; rintro e w' ⟨rfl, rfl⟩)
        | (go_at_call 19; refine (HRy.out _).mono ?_; rintro e w' ⟨rfl, rfl⟩)
        | (go_at_call_of 20 (Value.float FloatKind.f64 x); refine (HMx.out _).mono ?_; rintro e w3 ⟨rfl, hb3⟩)
        | (go_at_call 20; refine (HMy.out _).mono ?_; rintro e w4 ⟨rfl, hb4⟩)
        | (go_at_call_of 21 (Value.float FloatKind.f64 x); refine (HPx.out _).mono ?_; rintro e w5 ⟨rfl, hb5⟩)
        | (go_at_call 21; refine (HPy.out _).mono ?_; rintro e w6 ⟨rfl, hb6⟩)
        | (go_at_call 17; refine (HOr.out _).mono ?_; rintro e w8 ⟨rfl, hb8⟩)
        | (go_at_call 12; refine (HA.out _).mono ?_; rintro e w7 ⟨rfl, hb7⟩))
      go_ret
      exact ⟨rfl, bel HBw.out (bel hb3 (bel hb4 (bel hb5 (bel hb6 (bel hb8 hb7)))))⟩
    · have hmn : m ≤ n := HMo.out rfl rfl (by omega)
      clear HMo
      go_wp2_with (first
        | (go_at_call_of 19 (Value.float FloatKind.f64 x); refine (HRx.out _).mono ?_; rintro e w' ⟨rfl, rfl⟩)
        | (go_at_call 19; refine (HRy.out _).mono ?_; rintro e w' ⟨rfl, rfl⟩)
        | (go_at_call_of 20 (Value.float FloatKind.f64 x); refine (HMx.out _).mono ?_; rintro e w3 ⟨rfl, hb3⟩)
        | (go_at_call 20; refine (HMy.out _).mono ?_; rintro e w4 ⟨rfl, hb4⟩)
        | (go_at_call_of 21 (Value.float FloatKind.f64 x); refine (HPx.out _).mono ?_; rintro e w5 ⟨rfl, hb5⟩)
        | (go_at_call 21; refine (HPy.out _).mono ?_; rintro e w6 ⟨rfl, hb6⟩)
        | (go_at_call 17; refine (HOr.out _).mono ?_; rintro e w8 ⟨rfl, hb8⟩)
        | (go_at_call 12; refine (HA.out _).mono ?_; rintro e w7 ⟨rfl, hb7⟩))
      go_ret
      exact ⟨rfl, bel HBw.out (bel hb3 (bel hb4 (bel hb5 (bel hb6 (bel hb8 hb7)))))⟩
end Go.Proofs.Ytiecneefommdlaa
