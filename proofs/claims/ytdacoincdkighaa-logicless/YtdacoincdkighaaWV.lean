/- The reference of layer 1: unary and binary operators, choices, bits. -/
import Derived.Test.YtdacoincdkighaaWU
namespace Go.Proofs.Ytdacoincdkighaa
open Go.RowKit Lg
set_option linter.unusedVariables false

theorem tupB {s t : List UInt8} {b : Bool} (h : t = s) : Ending.returned (.tuple #[.string (S s), .bool b]) = .returned (.tuple #[.string (S t), .bool b]) := by rw [h]

set_option maxHeartbeats 1000000 in
theorem rUnary10_c (s : ByteArray) (w : World) (hv : vec (L s) = true) : Calls Try.prog 21 #[.int .i64 10, .string s] w fun e w' => e = .returned (.tuple #[.string (S [fold band 49 (L s)]), .bool true]) ∧ Below w.heap.size w w' := by
  have v1 := vec_len hv
  rw [len_L] at v1
  obtain ⟨v1a, v1b⟩ := v1
  have h0 : 0 < s.size := by omega
  have h0I : (0 : Int) < (s.size : Int) := by omega
  have hb0 := vec_at s hv 0 h0
  have HF : Hid (bz s[0] = fold band 49 ((L s).take 1)) := show _ = _ from by rw [fold_first _ _ s h0, and_first hb0]
  have HB0 : Hid (bitB (bz s[0]) = true) := bz_bit hb0
  have HV : Hid _ := hv
  clear hb0 hv
  go_enter Try.func21, Try.ntmps21
  go_wp2_with (go_at_call 53; refine (rbit_c _ _).mono ?_; rintro e w1 ⟨rfl, hw1⟩; have hw2 := hw1.symm; subst hw2)
  go_loop [6, 7] (fun tv i => ∃ (k : Nat) (t : UInt8), 1 ≤ k ∧ k ≤ s.size ∧ i = .int .i64 k ∧ tv = .int .u8 t.toNat ∧ Hid (t = fold band 49 ((L s).take k))) (fun _ i => s.size - (intOf i).toNat)
  case atStart => exact ⟨1, bz s[0], by omega, by omega, rfl, rfl, HF⟩
  case round =>
    obtain ⟨k, t, hk0, hk, rfl, rfl, HT⟩ := hrel
    by_cases hlt : k < s.size
    · have hkI : (k : Int) < (s.size : Int) := by omega
      have HS : Hid _ := fold_next band 49 s k hlt t HT.out
      go_wp2_with (go_at_call 44; refine (rAnd_c t s[k] _).mono ?_; rintro e w' ⟨rfl, hw1⟩; have hw2 := hw1.symm; subst hw2)
      go_round
      case rel => exact ⟨k + 1, band t s[k], by omega, by omega, by go_num, rfl, by exact HS.out.symm⟩
      case measure => simp [intOf]; omega
    · go_wp2_with (go_at_call 43; refine (rone_c t _).mono ?_; rintro e w2 ⟨rfl, hb2⟩)
      go_ret2
      exact ⟨tupB (by rw [HT.out, take_all s k (by omega)]), by assumption⟩

set_option maxHeartbeats 1000000 in
theorem rUnary11_c (s : ByteArray) (w : World) (hv : vec (L s) = true) : Calls Try.prog 21 #[.int .i64 11, .string s] w fun e w' => e = .returned (.tuple #[.string (S [fold bor 48 (L s)]), .bool true]) ∧ Below w.heap.size w w' := by
  have v1 := vec_len hv
  rw [len_L] at v1
  obtain ⟨v1a, v1b⟩ := v1
  have h0 : 0 < s.size := by omega
  have h0I : (0 : Int) < (s.size : Int) := by omega
  have hb0 := vec_at s hv 0 h0
  have HF : Hid (bz s[0] = fold bor 48 ((L s).take 1)) := show _ = _ from by rw [fold_first _ _ s h0, or_first hb0]
  have HB0 : Hid (bitB (bz s[0]) = true) := bz_bit hb0
  have HV : Hid _ := hv
  clear hb0 hv
  go_enter Try.func21, Try.ntmps21
  go_wp2_with (go_at_call 53; refine (rbit_c _ _).mono ?_; rintro e w1 ⟨rfl, hw1⟩; have hw2 := hw1.symm; subst hw2)
  go_loop [6, 7] (fun tv i => ∃ (k : Nat) (t : UInt8), 1 ≤ k ∧ k ≤ s.size ∧ i = .int .i64 k ∧ tv = .int .u8 t.toNat ∧ Hid (t = fold bor 48 ((L s).take k))) (fun _ i => s.size - (intOf i).toNat)
  case atStart => exact ⟨1, bz s[0], by omega, by omega, rfl, rfl, HF⟩
  case round =>
    obtain ⟨k, t, hk0, hk, rfl, rfl, HT⟩ := hrel
    by_cases hlt : k < s.size
    · have hkI : (k : Int) < (s.size : Int) := by omega
      have HS : Hid _ := fold_next bor 48 s k hlt t HT.out
      go_wp2_with (go_at_call 45; refine (rOr_c t s[k] _).mono ?_; rintro e w' ⟨rfl, hw1⟩; have hw2 := hw1.symm; subst hw2)
      go_round
      case rel => exact ⟨k + 1, bor t s[k], by omega, by omega, by go_num, rfl, by exact HS.out.symm⟩
      case measure => simp [intOf]; omega
    · go_wp2_with (go_at_call 43; refine (rone_c t _).mono ?_; rintro e w2 ⟨rfl, hb2⟩)
      go_ret2
      exact ⟨tupB (by rw [HT.out, take_all s k (by omega)]), by assumption⟩

set_option maxHeartbeats 1000000 in
theorem rUnary12_c (s : ByteArray) (w : World) (hv : vec (L s) = true) : Calls Try.prog 21 #[.int .i64 12, .string s] w fun e w' => e = .returned (.tuple #[.string (S [fold bxor 48 (L s)]), .bool true]) ∧ Below w.heap.size w w' := by
  have v1 := vec_len hv
  rw [len_L] at v1
  obtain ⟨v1a, v1b⟩ := v1
  have h0 : 0 < s.size := by omega
  have h0I : (0 : Int) < (s.size : Int) := by omega
  have hb0 := vec_at s hv 0 h0
  have HF : Hid (bz s[0] = fold bxor 48 ((L s).take 1)) := show _ = _ from by rw [fold_first _ _ s h0, xor_first hb0]
  have HB0 : Hid (bitB (bz s[0]) = true) := bz_bit hb0
  have HV : Hid _ := hv
  clear hb0 hv
  go_enter Try.func21, Try.ntmps21
  go_wp2_with (go_at_call 53; refine (rbit_c _ _).mono ?_; rintro e w1 ⟨rfl, hw1⟩; have hw2 := hw1.symm; subst hw2)
  go_loop [6, 7] (fun tv i => ∃ (k : Nat) (t : UInt8), 1 ≤ k ∧ k ≤ s.size ∧ i = .int .i64 k ∧ tv = .int .u8 t.toNat ∧ Hid (t = fold bxor 48 ((L s).take k)) ∧ Hid (bitB t = true)) (fun _ i => s.size - (intOf i).toNat)
  case atStart => exact ⟨1, bz s[0], by omega, by omega, rfl, rfl, HF, HB0⟩
  case round =>
    obtain ⟨k, t, hk0, hk, rfl, rfl, HT, HB⟩ := hrel
    by_cases hlt : k < s.size
    · have hkI : (k : Int) < (s.size : Int) := by omega
      have HS : Hid _ := fold_next bxor 48 s k hlt t HT.out
      go_wp2_with (go_at_call 54; refine (rXor_c t s[k] _).mono ?_; rintro e w' ⟨rfl, hw1⟩; have hw2 := hw1.symm; subst hw2)
      go_round
      case rel => exact ⟨k + 1, rxor t s[k], by omega, by omega, by go_num, rfl, by rw [rxor_bits _ _ HB.out (vec_at s HV.out k hlt)]; exact HS.out.symm, by rw [rxor_bits _ _ HB.out (vec_at s HV.out k hlt)]; exact bxor_bit _ _⟩
      case measure => simp [intOf]; omega
    · go_wp2_with (go_at_call 43; refine (rone_c t _).mono ?_; rintro e w2 ⟨rfl, hb2⟩)
      go_ret2
      exact ⟨tupB (by rw [HT.out, take_all s k (by omega)]), by assumption⟩

set_option maxHeartbeats 1000000 in
theorem rUnary_c (op : Int) (s : ByteArray) (w : World) (hv : vec (L s) = true) (h1 : 7 ≤ op) (h2 : op ≤ 12) : Calls Try.prog 21 #[.int .i64 op, .string s] w fun e w' => e = .returned (.tuple #[.string (S (unaL op (L s))), .bool true]) ∧ Below w.heap.size w w' := by
  have v1 := vec_len hv
  rw [len_L] at v1
  obtain ⟨v1a, v1b⟩ := v1
  have hs1 : s.size ≤ maxLen := by unfold maxLen; omega
  by_cases h7 : op = 7
  · subst h7
    go_enter Try.func21, Try.ntmps21
    go_wp2_with (go_at_call 50; refine (rturned_c s _ (by omega)).mono ?_; rintro e w1 ⟨rfl, hb1⟩)
    go_ret2
    exact ⟨tupB (by unfold unaL; simp), hb1⟩
  by_cases h8 : op = 8
  · subst h8
    go_enter Try.func21, Try.ntmps21
    go_wp2_with (first | (go_at_call 34; refine (rTruth_c s _ hs1).mono ?_; rintro e w1 ⟨rfl, rfl⟩) | (go_at_call 52; refine (rNot_c _ _).mono ?_; rintro e w1 ⟨rfl, rfl⟩) | (go_at_call 43; refine (rone_c _ _).mono ?_; rintro e w2 ⟨rfl, hb2⟩))
    go_ret2
    exact ⟨tupB (by unfold unaL; simp), by assumption⟩
  by_cases h9 : op = 9
  · subst h9
    by_cases hk : kno (L s) = true
    · go_enter Try.func21, Try.ntmps21
      go_wp2_with (first | (go_at_call 32; refine (rknown_c s _ hs1).mono ?_; rintro e w1 ⟨rfl, rfl⟩) | (go_at_call 50; refine (rturned_c s _ (by omega)).mono ?_; rintro e w2 ⟨rfl, hb2⟩) | (go_at_call 48; refine (rAll_c 48 s.size _ (by omega)).mono ?_; rintro e w3 ⟨rfl, hb3⟩) | (go_at_call 49; refine (rsum_c (S (turnL (L s))) (S (rep s.size 48)) 1 _ (by rw [size_S, size_S, len_turnL, len_rep, len_L]) (by rw [size_S, len_turnL, len_L]; omega) (by omega) (by rw [L_S]; exact kno_turn _ hk) (by rw [L_S]; exact kno_rep _ _ rfl)).mono ?_; rintro e w4 ⟨rfl, hb4⟩))
      go_ret2
      exact ⟨tupB (by have := neg_ref (L s) hk; rw [len_L] at this; unfold unaL; simp only [len_L]; rw [L_S, L_S, ← this]; simp), bel (bel hb2 hb3) hb4⟩
    · have hk' : kno (L s) = false := by simpa using hk
      go_enter Try.func21, Try.ntmps21
      go_wp2_with (first | (go_at_call 32; refine (rknown_c s _ hs1).mono ?_; rintro e w1 ⟨rfl, rfl⟩) | (go_at_call 48; refine (rAll_c 120 s.size _ (by omega)).mono ?_; rintro e w3 ⟨rfl, hb3⟩))
      go_ret2
      exact ⟨tupB (by have := neg_unk (L s) hk'; rw [len_L] at this; unfold unaL; simp only [len_L]; rw [this]; simp), by assumption⟩
  rcases (show op = 10 ∨ op = 11 ∨ op = 12 by omega) with rfl | rfl | rfl
  · refine (rUnary10_c s w hv).mono ?_; rintro e w' ⟨rfl, hb⟩; exact ⟨tupB (by unfold unaL; simp), hb⟩
  · refine (rUnary11_c s w hv).mono ?_; rintro e w' ⟨rfl, hb⟩; exact ⟨tupB (by unfold unaL tru; simp), hb⟩
  · refine (rUnary12_c s w hv).mono ?_; rintro e w' ⟨rfl, hb⟩; exact ⟨tupB (by unfold unaL; simp), hb⟩
set_option maxHeartbeats 1000000 in
theorem rUnary_no (op : Int) (s : ByteArray) (w : World) (h : op < 7 ∨ 12 < op) : Calls Try.prog 21 #[.int .i64 op, .string s] w fun e w' => e = .returned (.tuple #[.string (S []), .bool false]) ∧ Below w.heap.size w w' := by
  have b7 : (op == 7) = false := ne_b (by omega)
  have b8 : (op == 8) = false := ne_b (by omega)
  have b9 : (op == 9) = false := ne_b (by omega)
  have b10 : (op == 10) = false := ne_b (by omega)
  have b11 : (op == 11) = false := ne_b (by omega)
  have b12 : (op == 12) = false := ne_b (by omega)
  clear h
  go_enter Try.func21, Try.ntmps21
  go_wp2
  go_ret2
  exact ⟨rfl, Below.refl _ _⟩
end Go.Proofs.Ytdacoincdkighaa
