/- The law LogicShifts: its walk. -/
import Derived.Test.YtdacoincdkighaaWY
import Derived.Test.YtdacoincdkighaaMath9
namespace Go.Proofs.Ytdacoincdkighaa
open Go.RowKit Lg
set_option linter.unusedVariables false

theorem Of_ok2 (N W : Nat) (w : World) (hn : N ≤ 9223372036854775807) (h1 : 1 ≤ W) (h2 : W ≤ 256) : Calls Try.prog 35 #[.int .i64 N, .int .i64 W] w fun e w' => e = .returned (.tuple #[.string (S (ofL N W)), .int .i64 0]) ∧ Below w.heap.size w w' := by
  refine (Of_c N W w (by omega)).mono ?_
  rintro e w' ⟨rfl, hb⟩
  have hn : ¬ ((N : Int) < 0 ∨ (W : Int) < 1 ∨ 256 < (W : Int)) := by omega
  refine ⟨?_, hb⟩
  unfold ofA ofE; rw [if_neg hn, if_neg hn]; rfl
theorem i64_and63 (n : Int) : bits .and .i64 n 63 = n % 64 := by
  have h63 : (BitVec.ofInt 64 63).toNat = 2 ^ 6 - 1 := by decide
  have key : (BitVec.ofInt 64 n &&& BitVec.ofInt 64 63).toNat = (n % ((2 ^ 64 : Nat) : Int)).toNat % 2 ^ 6 := by
    rw [BitVec.toNat_and, BitVec.toNat_ofInt, h63, Nat.and_two_pow_sub_one_eq_mod]
  show IntKind.i64.wrap ((BitVec.ofInt 64 n &&& BitVec.ofInt 64 63).toNat : Nat) = n % 64
  rw [key, IntKind.wrap_i64]
  omega
set_option maxHeartbeats 4000000 in
set_option maxRecDepth 100000 in
theorem LogicShifts_c (s : ByteArray) (a b : Int) (w : World) (hs1 : s.size ≤ maxLen) (ha0 : -9223372036854775808 ≤ a ∧ a ≤ 9223372036854775807) (hb0 : -9223372036854775808 ≤ b ∧ b ≤ 9223372036854775807) : Calls Try.prog 12 #[.string s, .int .i64 a, .int .i64 b] w fun e w' => e = .returned (.bool true) ∧ Below w.heap.size w w' := by
  clear ha0 hb0
  by_cases va : vec (L s) = true
  · have v1 := vec_len va
    rw [len_L] at v1
    obtain ⟨v1a, v1b⟩ := v1
    obtain ⟨p, hp⟩ : ∃ p : Nat, bits .and .i64 a 63 = (p : Int) ∧ p < 64 := ⟨(a % 64).toNat, by rw [i64_and63]; omega, by omega⟩
    obtain ⟨q, hq⟩ : ∃ q : Nat, bits .and .i64 b 63 = (q : Int) ∧ q < 64 := ⟨(b % 64).toNat, by rw [i64_and63]; omega, by omega⟩
    obtain ⟨hp, hp2⟩ := hp
    obtain ⟨hq, hq2⟩ := hq
    obtain ⟨r, hr⟩ : ∃ r, r = p + q := ⟨_, rfl⟩
    have hr2 : (p : Int) + (q : Int) = (r : Int) := by omega
    have hr3 : r < 512 := by omega
    have HR : Hid (r = p + q) := hr
    obtain ⟨U, hU⟩ : ∃ U, U = shlL (L s) (mn p s.size) := ⟨_, rfl⟩
    obtain ⟨D, hD⟩ : ∃ D, D = shrL U (mn p s.size) := ⟨_, rfl⟩
    obtain ⟨M, hM⟩ : ∃ M, M = shlL U (mn q s.size) := ⟨_, rfl⟩
    have lU : U.length = s.size := by rw [hU, len_shl _ _ (by rw [len_L]; exact mn_le _ _), len_L]
    have lD : D.length = s.size := by rw [hD, len_shr _ _ (by rw [lU]; exact mn_le _ _), lU]
    have vU : vec U = true := by rw [hU]; exact vec_shl _ va (by rw [len_L]; exact mn_le _ _)
    have b1 : binL 15 (L s) (ofL p 9) = U := by rw [bin_shl _ _ (by omega), len_L, ← hU]
    have b2 : binL 16 U (ofL p 9) = D := by rw [bin_shr _ _ (by omega), lU, ← hD]
    have b3 : binL 15 U (ofL q 9) = M := by rw [bin_shl _ _ (by omega), lU, ← hM]
    have b4 : binL 15 (L s) (ofL r 9) = M := by
      rw [bin_shl _ _ hr3, hM, hU, hr]
      have := shl_shl (L s) p q
      rw [len_L] at this ⊢
      exact this.symm
    have dz : (S D).size = s.size := by rw [size_S, lD]
    have dat : ∀ i (h1 : i < s.size) (h2 : i < (S D).size), (S D)[i] = if p ≤ i then s[i] else 48 := fun i h1 h2 => by
      rw [at_getD, at_getD, L_S, hD, hU]
      have := shl_shr_at (L s) p i (by rw [len_L]; exact h1)
      rw [len_L] at this
      exact this
    have B1 : Hid _ := b1
    have B2 : Hid _ := b2
    have B3 : Hid _ := b3
    have B4 : Hid _ := b4
    have VU : Hid _ := vU
    have DAT : Hid _ := dat
    have VA : Hid _ := va
    obtain ⟨d, hd⟩ : ∃ d, d = S D := ⟨_, rfl⟩
    have HD2 : Hid (d = S D) := hd
    rw [← hd] at dz DAT
    have hdz : s.size ≤ d.size := by omega
    have hde : ((d.size : Int) != (s.size : Int)) = false := by simp [dz]
    have hde2 : ¬ (d.size : Int) ≠ (s.size : Int) := by omega
    have DZ : Hid _ := dz
    clear hr hU hD hM lU lD vU b1 b2 b3 b4 dz dat hd hde2
    have run := Below.refl w.heap.size w
    go_enter Try.func12, Try.ntmps12
    go_wp2_with (first
      | (go_at_call 17; refine (may_c s _ hs1).mono ?_; rintro e w9 ⟨rfl, hw1⟩; have hw2 := hw1.symm; subst hw2)
      | (go_at_call_of 35 (Value.int IntKind.i64 (p : Int)); refine (Of_ok2 p 9 _ (by omega) (by omega) (by omega)).mono ?_; rintro e w1 ⟨rfl, hbb⟩; replace run := bel run hbb)
      | (go_at_call_of 35 (Value.int IntKind.i64 (q : Int)); refine (Of_ok2 q 9 _ (by omega) (by omega) (by omega)).mono ?_; rintro e w1 ⟨rfl, hbb⟩; replace run := bel run hbb)
      | (go_at_call_of 35 (Value.int IntKind.i64 (r : Int)); refine (Of_ok2 r 9 _ (by omega) (by omega) (by omega)).mono ?_; rintro e w1 ⟨rfl, hbb⟩; replace run := bel run hbb)
      | (go_at_call_of 16 (Value.int IntKind.i64 16); refine (Binary_ok 16 (S U) (S (ofL p 9)) _ (by rw [L_S]; exact VU.out) (by rw [L_S]; exact ofL_vec _ _ (by omega) (by omega)) (by omega) (by omega)).mono ?_; rintro e w2 ⟨rfl, hbb⟩; rw [L_S, L_S, B2.out, ← HD2.out]; replace run := bel run hbb)
      | (go_at_call_of 16 (Value.string (S U)); refine (Binary_ok 15 (S U) (S (ofL q 9)) _ (by rw [L_S]; exact VU.out) (by rw [L_S]; exact ofL_vec _ _ (by omega) (by omega)) (by omega) (by omega)).mono ?_; rintro e w2 ⟨rfl, hbb⟩; rw [L_S, L_S, B3.out]; replace run := bel run hbb)
      | (go_at_call_of 16 (Value.string (S (ofL p 9))); refine (Binary_ok 15 s (S (ofL p 9)) _ VA.out (by rw [L_S]; exact ofL_vec _ _ (by omega) (by omega)) (by omega) (by omega)).mono ?_; rintro e w2 ⟨rfl, hbb⟩; rw [L_S, B1.out]; replace run := bel run hbb)
      | (go_at_call_of 16 (Value.string (S (ofL r 9))); refine (Binary_ok 15 s (S (ofL r 9)) _ VA.out (by rw [L_S]; exact ofL_vec _ _ (by omega) (by omega)) (by omega) (by omega)).mono ?_; rintro e w2 ⟨rfl, hbb⟩; rw [L_S, B4.out]; replace run := bel run hbb))
    go_loop [23] (fun i => ∃ k : Nat, k ≤ s.size ∧ i = .int .i64 k) (fun i => s.size - (intOf i).toNat)
    case atStart => exact ⟨0, Nat.zero_le _, rfl⟩
    case round =>
      obtain ⟨k, hk, rfl⟩ := hrel
      by_cases hlt : k < s.size
      · have hlt2 : k < d.size := by omega
        have hkI : (k : Int) < (s.size : Int) := by omega
        have hkJ : (k : Int) < (d.size : Int) := by omega
        have hdk := DAT.out k hlt hlt2
        by_cases c : p ≤ k
        · rw [if_pos c] at hdk
          have q1 : (((d[k].toNat : Nat) : Int) != ((s[k].toNat : Nat) : Int)) = false := by rw [hdk]; simp
          clear hdk
          go_wp2
          go_round
          case rel => exact ⟨k + 1, by omega, by go_num⟩
          case measure => simp [intOf]; omega
        · rw [if_neg c] at hdk
          have q1 : ((d[k].toNat : Nat) : Int) = 48 := (i48 _).2 hdk
          clear hdk
          go_wp2
          go_round
          case rel => exact ⟨k + 1, by omega, by go_num⟩
          case measure => simp [intOf]; omega
      · go_wp2_with (go_at_call 19; refine (awake_c _).mono ?_; rintro e w3 ⟨rfl, hbb⟩; replace run := bel run hbb)
        go_ret
        exact ⟨rfl, run⟩
  · have va' : vec (L s) = false := by simpa using va
    go_enter Try.func12, Try.ntmps12
    go_wp2_with (first | (go_at_call 17; refine (may_c s _ hs1).mono ?_; rintro e w9 ⟨rfl, hw1⟩; have hw2 := hw1.symm; subst hw2) | (go_at_call 19; refine (awake_c _).mono ?_; rintro e w3 ⟨rfl, hb3⟩))
    go_ret
    exact ⟨rfl, hb3⟩
end Go.Proofs.Ytdacoincdkighaa
