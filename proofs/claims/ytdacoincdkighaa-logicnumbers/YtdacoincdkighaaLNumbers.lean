/- The law LogicNumbers: its walk. -/
import Derived.Test.YtdacoincdkighaaWN
namespace Go.Proofs.Ytdacoincdkighaa
open Go.RowKit Lg
set_option linter.unusedVariables false

theorem S_nil : S [] = ⟨#[]⟩ := rfl
theorem wraps_i64 (n : Int) (h₀ : 0 ≤ n) (h₁ : n < 2 ^ 63) : IntKind.i64.wrap n = n := by rw [IntKind.wrap_i64]; omega
theorem i64_mask (n : Int) (W : Nat) (hW : W ≤ 62) (h0 : 0 ≤ n) (h1 : n < 2 ^ 63) : bits .and .i64 n (2 ^ W - 1) = n % 2 ^ W := bits_mask .i64 63 (by decide) wraps_i64 W (by omega) n h0 h1
theorem pow_lt62 (W : Nat) (hW : W ≤ 62) : (1 : Int) ≤ 2 ^ W ∧ (2 : Int) ^ W ≤ 4611686018427387904 := by
  have h : (2 : Nat) ^ W ≤ 2 ^ 62 := Nat.pow_le_pow_right (by decide) hW
  have h2 : 0 < (2 : Nat) ^ W := Nat.two_pow_pos W
  have e : ((2 : Int) ^ W) = ((2 ^ W : Nat) : Int) := by simp
  rw [e]; omega
theorem mask_wrap (n : Int) (W : Nat) (hW : W ≤ 62) (h0 : 0 ≤ n) (h1 : n < 2 ^ 63) : bits .and .i64 n (wrap64 (wrap64 (2 ^ W) - 1)) = n % 2 ^ W := by
  have hp := pow_lt62 W hW
  rw [IntWalk.wrap64_in (2 ^ W) ⟨by omega, by omega⟩, IntWalk.wrap64_in (2 ^ W - 1) ⟨by omega, by omega⟩]
  exact i64_mask n W hW h0 h1
set_option maxHeartbeats 1000000 in
theorem LogicNumbers_c (n wd : Int) (w : World) (hn0 : -9223372036854775808 ≤ n ∧ n ≤ 9223372036854775807) (hd0 : -9223372036854775808 ≤ wd ∧ wd ≤ 9223372036854775807) : Calls Try.prog 7 #[.int .i64 n, .int .i64 wd] w fun e w' => e = .returned (.bool true) ∧ Below w.heap.size w w' := by
  obtain ⟨_, hn1⟩ := hn0
  clear hd0
  by_cases hb : n < 0 ∨ wd < 1 ∨ 256 < wd
  · have hA : ofA n wd = [] := by unfold ofA; rw [if_pos hb]
    have hE : ofE n wd = 1 := by unfold ofE; rw [if_pos hb]
    have HA : Hid _ := hA
    have HE : Hid _ := hE
    clear hA hE
    by_cases c1 : n < 0
    · clear hb
      go_enter Try.func7, Try.ntmps7
      go_wp2_with (first | (go_at_call 35; refine (Of_c n wd _ hn1).mono ?_; rintro e w1 ⟨rfl, hb1⟩; rw [HA.out, HE.out, S_nil]) | (go_at_call 19; refine (awake_c _).mono ?_; rintro e w3 ⟨rfl, hb3⟩))
      go_ret
      exact ⟨rfl, bel hb1 hb3⟩
    by_cases c2 : wd < 1
    · clear hb
      go_enter Try.func7, Try.ntmps7
      go_wp2_with (first | (go_at_call 35; refine (Of_c n wd _ hn1).mono ?_; rintro e w1 ⟨rfl, hb1⟩; rw [HA.out, HE.out, S_nil]) | (go_at_call 19; refine (awake_c _).mono ?_; rintro e w3 ⟨rfl, hb3⟩))
      go_ret
      exact ⟨rfl, bel hb1 hb3⟩
    have c3 : 256 < wd := by omega
    clear hb
    go_enter Try.func7, Try.ntmps7
    go_wp2_with (first | (go_at_call 35; refine (Of_c n wd _ hn1).mono ?_; rintro e w1 ⟨rfl, hb1⟩; rw [HA.out, HE.out, S_nil]) | (go_at_call 19; refine (awake_c _).mono ?_; rintro e w3 ⟨rfl, hb3⟩))
    go_ret
    exact ⟨rfl, bel hb1 hb3⟩
  · obtain ⟨N, rfl⟩ := Int.eq_ofNat_of_zero_le (show 0 ≤ n by omega)
    obtain ⟨W, rfl⟩ := Int.eq_ofNat_of_zero_le (show 0 ≤ wd by omega)
    have hA : ofA N W = ofL N W := by unfold ofA; rw [if_neg hb]; rfl
    have hE : ofE N W = 0 := by unfold ofE; rw [if_neg hb]
    have HA : Hid _ := hA
    have HE : Hid _ := hE
    have hW1 : 1 ≤ W := by omega
    have hW2 : W ≤ 256 := by omega
    have hN : N ≤ 9223372036854775807 := by omega
    have hz : (S (ofL N W)).size ≤ maxLen := by rw [size_S, len_ofL]; unfold maxLen; omega
    clear hA hE hb
    by_cases c1 : 63 ≤ W ∧ 2147483647 < N
    · obtain ⟨c1, c2⟩ := c1
      have hp : N % 2 ^ W = N := Nat.mod_eq_of_lt (Nat.lt_of_lt_of_le (show N < 2 ^ 63 by omega) (Nat.pow_le_pow_right (by decide) c1))
      have hk := num_big (ofL_vec N W hW1 hW2) (ofL_kno N W) (by rw [num_ofL, hp]; omega)
      have HK : Hid _ := hk
      clear hk hp
      go_enter Try.func7, Try.ntmps7
      go_wp2_with (first | (go_at_call 35; refine (Of_c N W _ hn1).mono ?_; rintro e w1 ⟨rfl, hb1⟩; rw [HA.out, HE.out]) | (go_at_call 36; refine (rOf_c N W _ hN hW1 hW2).mono ?_; rintro e w2 ⟨rfl, hb2⟩) | (go_at_call 27; refine (Number_c (S (ofL N W)) _ hz).mono ?_; rintro e w4 ⟨rfl, hb4⟩; rw [L_S, HK.out.1, HK.out.2]) | (go_at_call 19; refine (awake_c _).mono ?_; rintro e w3 ⟨rfl, hb3⟩))
      go_ret
      exact ⟨rfl, bel (bel (bel hb1 hb2) hb4) hb3⟩
    · by_cases c2 : W < 31
      · have hp : N % 2 ^ W < 2 ^ 31 := Nat.lt_of_lt_of_le (Nat.mod_lt _ (Nat.two_pow_pos W)) (Nat.pow_le_pow_right (by decide) (by omega))
        have hk := num_ok (ofL_vec N W hW1 hW2) (ofL_kno N W) (by rw [num_ofL]; omega)
        have HK : Hid _ := hk
        have hmk := mask_wrap N W (by omega) (by omega) (by omega)
        clear hk hp c1
        go_enter Try.func7, Try.ntmps7
        go_wp2_with (first | (go_at_call 35; refine (Of_c N W _ hn1).mono ?_; rintro e w1 ⟨rfl, hb1⟩; rw [HA.out, HE.out]) | (go_at_call 36; refine (rOf_c N W _ hN hW1 hW2).mono ?_; rintro e w2 ⟨rfl, hb2⟩) | (go_at_call 27; refine (Number_c (S (ofL N W)) _ hz).mono ?_; rintro e w4 ⟨rfl, hb4⟩; rw [L_S, HK.out.1, HK.out.2, num_ofL]) | (go_at_call 19; refine (awake_c _).mono ?_; rintro e w3 ⟨rfl, hb3⟩))
        go_ret
        exact ⟨rfl, bel (bel (bel hb1 hb2) hb4) hb3⟩
      · by_cases c3 : 63 ≤ W
        · have c4 : N ≤ 2147483647 := by omega
          clear c1
          go_enter Try.func7, Try.ntmps7
          go_wp2_with (first | (go_at_call 35; refine (Of_c N W _ hn1).mono ?_; rintro e w1 ⟨rfl, hb1⟩; rw [HA.out, HE.out]) | (go_at_call 36; refine (rOf_c N W _ hN hW1 hW2).mono ?_; rintro e w2 ⟨rfl, hb2⟩) | (go_at_call 27; refine (Number_c (S (ofL N W)) _ hz).mono ?_; rintro e w4 ⟨rfl, hb4⟩) | (go_at_call 19; refine (awake_c _).mono ?_; rintro e w3 ⟨rfl, hb3⟩))
          go_ret
          exact ⟨rfl, bel (bel (bel hb1 hb2) hb4) hb3⟩
        · clear c1
          go_enter Try.func7, Try.ntmps7
          go_wp2_with (first | (go_at_call 35; refine (Of_c N W _ hn1).mono ?_; rintro e w1 ⟨rfl, hb1⟩; rw [HA.out, HE.out]) | (go_at_call 36; refine (rOf_c N W _ hN hW1 hW2).mono ?_; rintro e w2 ⟨rfl, hb2⟩) | (go_at_call 27; refine (Number_c (S (ofL N W)) _ hz).mono ?_; rintro e w4 ⟨rfl, hb4⟩) | (go_at_call 19; refine (awake_c _).mono ?_; rintro e w3 ⟨rfl, hb3⟩))
          go_ret
          exact ⟨rfl, bel (bel (bel hb1 hb2) hb4) hb3⟩
end Go.Proofs.Ytdacoincdkighaa
