/- The law LogicSplits: its walk. -/
import Derived.Test.YtdacoincdkighaaWN
namespace Go.Proofs.Ytdacoincdkighaa
open Go.RowKit Lg
set_option linter.unusedVariables false

theorem parL_one (s : ByteArray) (k : Nat) (h : k < s.size) : parL (L s) k k = [bitAt (L s) k] := by
  have h1 := part_L s k k (Nat.le_refl _) h
  have h2 := bit_L s k h
  have := congrArg L (h1.symm.trans h2)
  rwa [L_S, L_S] at this
theorem parL_all (s : ByteArray) (k : Nat) (h : k + 1 = s.size) : S (parL (L s) k 0) = s := by
  apply L_inj; rw [L_S]; unfold parL; rw [len_L, show s.size - 1 - k = 0 by omega, List.drop_zero, List.take_of_length_le (by rw [len_L]; omega)]
theorem parL_two (s : ByteArray) (k : Nat) (h : k + 1 < s.size) : S (parL (L s) (s.size - 1) (k + 1)) ++ S (parL (L s) k 0) = s := by
  apply L_inj; rw [L_append, L_S, L_S]; unfold parL
  rw [len_L, show s.size - 1 - (s.size - 1) = 0 by omega, List.drop_zero, show s.size - 1 - (k + 1) + 1 = s.size - 1 - k by omega]
  rw [List.take_of_length_le (l := List.drop (s.size - 1 - k) (L s)) (by rw [List.length_drop, len_L]; omega), List.take_append_drop]

set_option maxHeartbeats 1000000 in
theorem Part_ok (s : ByteArray) (hi lo : Nat) (w : World) (hv : vec (L s) = true) (h1 : lo ≤ hi) (h2 : hi < s.size) : Calls Try.prog 25 #[.string s, .int .i64 hi, .int .i64 lo] w fun e w' => e = .returned (.tuple #[.string (S (parL (L s) hi lo)), .int .i64 0]) ∧ Below w.heap.size w w' := by
  have hs1 : s.size ≤ maxLen := by have := vec_len hv; rw [len_L] at this; unfold maxLen; omega
  refine (Part_c s hi lo w hs1).mono ?_
  rintro e w' ⟨rfl, hb⟩
  have hn : ¬ ((lo : Int) < 0 ∨ (hi : Int) < lo ∨ ((L s).length : Int) ≤ hi) := by rw [len_L]; omega
  refine ⟨?_, hb⟩
  unfold parA parE; rw [hv, if_neg hn, if_neg hn]; rfl
theorem Of_ok (N W : Nat) (w : World) (hn : N ≤ 9223372036854775807) (h1 : 1 ≤ W) (h2 : W ≤ 256) : Calls Try.prog 35 #[.int .i64 N, .int .i64 W] w fun e w' => e = .returned (.tuple #[.string (S (ofL N W)), .int .i64 0]) ∧ Below w.heap.size w w' := by
  refine (Of_c N W w (by omega)).mono ?_
  rintro e w' ⟨rfl, hb⟩
  have hn : ¬ ((N : Int) < 0 ∨ (W : Int) < 1 ∨ 256 < (W : Int)) := by omega
  refine ⟨?_, hb⟩
  unfold ofA ofE; rw [if_neg hn, if_neg hn]; rfl
theorem Bit_ok (s t : ByteArray) (w : World) (hv : vec (L s) = true) (ht : vec (L t) = true) (n : Nat) (hk : kno (L t) = true) (hn : num (L t) = n) (h : n < s.size) : Calls Try.prog 26 #[.string s, .string t] w fun e w' => e = .returned (.tuple #[.string (S [bitAt (L s) n]), .int .i64 0]) ∧ Below w.heap.size w w' := by
  have hs1 : s.size ≤ maxLen := by have := vec_len hv; rw [len_L] at this; unfold maxLen; omega
  have hs2 : t.size ≤ maxLen := by have := vec_len ht; rw [len_L] at this; unfold maxLen; omega
  refine (Bit_c s t w hs1 hs2).mono ?_
  rintro e w' ⟨rfl, hb⟩
  refine ⟨?_, hb⟩
  unfold btA btE btL; rw [hv, ht, hk, hn, len_L, if_pos h]; rfl

set_option maxHeartbeats 2000000 in
theorem LogicSplits_c (s : ByteArray) (cut : Int) (w : World) (hs1 : s.size ≤ maxLen) (hc0 : -9223372036854775808 ≤ cut ∧ cut ≤ 9223372036854775807) : Calls Try.prog 13 #[.string s, .int .i64 cut] w fun e w' => e = .returned (.bool true) ∧ Below w.heap.size w w' := by
  obtain ⟨hc1, hc2⟩ := hc0
  by_cases hv : vec (L s) = true
  · have v1 := vec_len hv
    rw [len_L] at v1
    obtain ⟨v1a, v1b⟩ := v1
    have hbd := Int.tmod_lt_of_pos cut (show (0 : Int) < (s.size : Int) by omega)
    have hbl := Int.lt_tmod_of_pos cut (show (0 : Int) < (s.size : Int) by omega)
    by_cases hd0 : cut.tmod (s.size : Int) < 0
    · obtain ⟨k, hd⟩ : ∃ k : Nat, cut.tmod (s.size : Int) = -(k : Int) := ⟨(-(cut.tmod (s.size : Int))).toNat, by omega⟩
      have hk : k < s.size := by omega
      have hkp : 0 < k := by omega
      clear hbd hbl hd0
      by_cases hkl : k + 1 = s.size
      · skip
        have hke : ((k : Int) == (s.size : Int) - 1) = true := by simp; omega
        have HA : Hid (S (parL (L s) k 0) = s) := parL_all s k (by omega)
        clear hkl
        go_enter Try.func13, Try.ntmps13
        go_wp2_with (first | (go_at_call 17; refine (may_c s _ hs1).mono ?_; rintro e w1 ⟨rfl, hw1⟩; have hw2 := hw1.symm; subst hw2) | (go_at_call_of 25 (Value.int IntKind.i64 0); refine (Part_ok s k 0 _ hv (by omega) hk).mono ?_; rintro e w2 ⟨rfl, hb2⟩; rw [HA.out]) | (go_at_call 25; refine (Part_ok s k k _ hv (by omega) hk).mono ?_; rintro e w3 ⟨rfl, hb3⟩; rw [parL_one s k hk]) | (go_at_call 35; refine (Of_ok k 9 _ (by omega) (by omega) (by omega)).mono ?_; rintro e w4 ⟨rfl, hb4⟩) | (go_at_call 26; refine (Bit_ok s (S (ofL k 9)) _ hv (by rw [L_S]; exact ofL_vec _ _ (by omega) (by omega)) k (by rw [L_S]; exact ofL_kno _ _) (by rw [L_S, num_ofL]; exact Nat.mod_eq_of_lt (by omega)) hk).mono ?_; rintro e w5 ⟨rfl, hb5⟩) | (go_at_call 19; refine (awake_c _).mono ?_; rintro e w6 ⟨rfl, hb6⟩))
        go_ret
        exact ⟨rfl, bel (bel (bel (bel hb2 hb3) hb4) hb5) hb6⟩
      · skip
        have hke : ((k : Int) == (s.size : Int) - 1) = false := by simp; omega
        obtain ⟨m, hm⟩ : ∃ m, s.size = m + 1 := ⟨s.size - 1, by omega⟩
        have e1 : (s.size : Int) - 1 = (m : Int) := by omega
        have E2 : Hid ((k : Int) + 1 = ((k + 1 : Nat) : Int)) := show _ = _ from by omega
        have hm1 : m < s.size := by omega
        have hm2 : k + 1 ≤ m := by omega
        have HA : Hid (S (parL (L s) m (k + 1)) ++ S (parL (L s) k 0) = s) := by have := parL_two s k (by omega); rw [show s.size - 1 = m by omega] at this; exact this
        have hz1 : (S (parL (L s) m (k + 1))).size ≤ 256 := by rw [size_S]; unfold parL; rw [List.length_take, List.length_drop, len_L]; omega
        have hz2 : (S (parL (L s) k 0)).size ≤ 256 := by rw [size_S]; unfold parL; rw [List.length_take, List.length_drop, len_L]; omega
        clear hkl hm
        go_enter Try.func13, Try.ntmps13
        go_wp2_with (first | (go_at_call 17; refine (may_c s _ hs1).mono ?_; rintro e w1 ⟨rfl, hw1⟩; have hw2 := hw1.symm; subst hw2) | (go_at_call_of 25 (Value.int IntKind.i64 0); refine (Part_ok s k 0 _ hv (by omega) hk).mono ?_; rintro e w2 ⟨rfl, hb2⟩) | (go_at_call 35; refine (Of_ok k 9 _ (by omega) (by omega) (by omega)).mono ?_; rintro e w4 ⟨rfl, hb4⟩) | (go_at_call 26; refine (Bit_ok s (S (ofL k 9)) _ hv (by rw [L_S]; exact ofL_vec _ _ (by omega) (by omega)) k (by rw [L_S]; exact ofL_kno _ _) (by rw [L_S, num_ofL]; exact Nat.mod_eq_of_lt (by omega)) hk).mono ?_; rintro e w5 ⟨rfl, hb5⟩) | (go_at_call 19; refine (awake_c _).mono ?_; rintro e w6 ⟨rfl, hb6⟩) | (go_at_call_of 25 (Value.int IntKind.i64 (k : Int)); refine (Part_ok s k k _ hv (by omega) hk).mono ?_; rintro e w3 ⟨rfl, hb3⟩; rw [parL_one s k hk]) | (go_at_call_of 25 (Value.int IntKind.i64 (m : Int)); rw [E2.out]; refine (Part_ok s m (k + 1) _ hv hm2 hm1).mono ?_; rintro e w7 ⟨rfl, hb7⟩; have hcat := HA.out))
        go_ret
        exact ⟨rfl, bel (bel (bel (bel (bel hb2 hb3) hb4) hb5) hb7) hb6⟩
    · obtain ⟨k, hd⟩ : ∃ k : Nat, cut.tmod (s.size : Int) = (k : Int) := ⟨(cut.tmod (s.size : Int)).toNat, by omega⟩
      have hk : k < s.size := by omega
      clear hbd hbl hd0
      by_cases hkl : k + 1 = s.size
      · skip
        have hke : ((k : Int) == (s.size : Int) - 1) = true := by simp; omega
        have HA : Hid (S (parL (L s) k 0) = s) := parL_all s k (by omega)
        clear hkl
        go_enter Try.func13, Try.ntmps13
        go_wp2_with (first | (go_at_call 17; refine (may_c s _ hs1).mono ?_; rintro e w1 ⟨rfl, hw1⟩; have hw2 := hw1.symm; subst hw2) | (go_at_call_of 25 (Value.int IntKind.i64 0); refine (Part_ok s k 0 _ hv (by omega) hk).mono ?_; rintro e w2 ⟨rfl, hb2⟩; rw [HA.out]) | (go_at_call 25; refine (Part_ok s k k _ hv (by omega) hk).mono ?_; rintro e w3 ⟨rfl, hb3⟩; rw [parL_one s k hk]) | (go_at_call 35; refine (Of_ok k 9 _ (by omega) (by omega) (by omega)).mono ?_; rintro e w4 ⟨rfl, hb4⟩) | (go_at_call 26; refine (Bit_ok s (S (ofL k 9)) _ hv (by rw [L_S]; exact ofL_vec _ _ (by omega) (by omega)) k (by rw [L_S]; exact ofL_kno _ _) (by rw [L_S, num_ofL]; exact Nat.mod_eq_of_lt (by omega)) hk).mono ?_; rintro e w5 ⟨rfl, hb5⟩) | (go_at_call 19; refine (awake_c _).mono ?_; rintro e w6 ⟨rfl, hb6⟩))
        go_ret
        exact ⟨rfl, bel (bel (bel (bel hb2 hb3) hb4) hb5) hb6⟩
      · skip
        have hke : ((k : Int) == (s.size : Int) - 1) = false := by simp; omega
        obtain ⟨m, hm⟩ : ∃ m, s.size = m + 1 := ⟨s.size - 1, by omega⟩
        have e1 : (s.size : Int) - 1 = (m : Int) := by omega
        have E2 : Hid ((k : Int) + 1 = ((k + 1 : Nat) : Int)) := show _ = _ from by omega
        have hm1 : m < s.size := by omega
        have hm2 : k + 1 ≤ m := by omega
        have HA : Hid (S (parL (L s) m (k + 1)) ++ S (parL (L s) k 0) = s) := by have := parL_two s k (by omega); rw [show s.size - 1 = m by omega] at this; exact this
        have hz1 : (S (parL (L s) m (k + 1))).size ≤ 256 := by rw [size_S]; unfold parL; rw [List.length_take, List.length_drop, len_L]; omega
        have hz2 : (S (parL (L s) k 0)).size ≤ 256 := by rw [size_S]; unfold parL; rw [List.length_take, List.length_drop, len_L]; omega
        clear hkl hm
        go_enter Try.func13, Try.ntmps13
        go_wp2_with (first | (go_at_call 17; refine (may_c s _ hs1).mono ?_; rintro e w1 ⟨rfl, hw1⟩; have hw2 := hw1.symm; subst hw2) | (go_at_call_of 25 (Value.int IntKind.i64 0); refine (Part_ok s k 0 _ hv (by omega) hk).mono ?_; rintro e w2 ⟨rfl, hb2⟩) | (go_at_call 35; refine (Of_ok k 9 _ (by omega) (by omega) (by omega)).mono ?_; rintro e w4 ⟨rfl, hb4⟩) | (go_at_call 26; refine (Bit_ok s (S (ofL k 9)) _ hv (by rw [L_S]; exact ofL_vec _ _ (by omega) (by omega)) k (by rw [L_S]; exact ofL_kno _ _) (by rw [L_S, num_ofL]; exact Nat.mod_eq_of_lt (by omega)) hk).mono ?_; rintro e w5 ⟨rfl, hb5⟩) | (go_at_call 19; refine (awake_c _).mono ?_; rintro e w6 ⟨rfl, hb6⟩) | (go_at_call_of 25 (Value.int IntKind.i64 (k : Int)); refine (Part_ok s k k _ hv (by omega) hk).mono ?_; rintro e w3 ⟨rfl, hb3⟩; rw [parL_one s k hk]) | (go_at_call_of 25 (Value.int IntKind.i64 (m : Int)); rw [E2.out]; refine (Part_ok s m (k + 1) _ hv hm2 hm1).mono ?_; rintro e w7 ⟨rfl, hb7⟩; have hcat := HA.out))
        go_ret
        exact ⟨rfl, bel (bel (bel (bel (bel hb2 hb3) hb4) hb5) hb7) hb6⟩
  · have hv' : vec (L s) = false := by simpa using hv
    go_enter Try.func13, Try.ntmps13
    go_wp2_with (first | (go_at_call 17; refine (may_c s _ hs1).mono ?_; rintro e w1 ⟨rfl, rfl⟩) | (go_at_call 19; refine (awake_c _).mono ?_; rintro e w3 ⟨rfl, hb3⟩))
    go_ret
    exact ⟨rfl, hb3⟩
end Go.Proofs.Ytdacoincdkighaa
