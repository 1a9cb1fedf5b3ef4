/- The law LogicTurns: its walk. -/
import Derived.Test.YtdacoincdkighaaWY
namespace Go.Proofs.Ytdacoincdkighaa
open Go.RowKit Lg
set_option linter.unusedVariables false

theorem una_not (a : List UInt8) : unaL 7 a = turnL a := by unfold unaL; simp
set_option maxHeartbeats 4000000 in
set_option maxRecDepth 100000 in
theorem LogicTurns_c (s t : ByteArray) (w : World) (hs1 : s.size ≤ maxLen) (hs2 : t.size ≤ maxLen) : Calls Try.prog 11 #[.string s, .string t] w fun e w' => e = .returned (.bool true) ∧ Below w.heap.size w w' := by
  by_cases va : vec (L s) = true
  · by_cases vb : vec (L t) = true
    · have v1 := vec_len va
      have v2 := vec_len vb
      rw [len_L] at v1 v2
      obtain ⟨v1a, v1b⟩ := v1
      obtain ⟨v2a, v2b⟩ := v2
      obtain ⟨m, hm⟩ : ∃ m, m = max s.size t.size := ⟨_, rfl⟩
      have hm1 : 1 ≤ m := by omega
      have hm2 : m ≤ 256 := by omega
      have hmx : max (s.size : Int) (t.size : Int) = (m : Int) := by omega
      clear hm
      obtain ⟨a, ha⟩ : ∃ a, a = fit (L s) m := ⟨_, rfl⟩
      obtain ⟨b, hb⟩ : ∃ b, b = fit (L t) m := ⟨_, rfl⟩
      have HA : Hid (a = fit (L s) m) := ha
      have HB : Hid (b = fit (L t) m) := hb
      have va' : vec a = true := by rw [ha]; exact vec_fit m va hm1 hm2
      have vb' : vec b = true := by rw [hb]; exact vec_fit m vb hm1 hm2
      have la : a.length = m := by rw [ha, len_fit]
      have lb : b.length = m := by rw [hb, len_fit]
      have lab : a.length = b.length := by omega
      have HLAB : Hid _ := lab
      have hKn := turn_back a (vec_all va')
      have HKN : Hid _ := hKn
      have hz : (S (turnL (turnL a))).size = m := by rw [size_S, len_turnL, len_turnL, la]
      have HW : Hid _ := turn_and a b lab
      have HVA : Hid _ := va'
      have HVB : Hid _ := vb'
      clear ha hb va' vb' la lb lab hKn
      have run := Below.refl w.heap.size w
      go_enter Try.func11, Try.ntmps11
      go_wp2_with (first
        | (go_at_call_of 17 (Value.string s); refine (may_c s _ hs1).mono ?_; rintro e w9 ⟨rfl, hw1⟩; have hw2 := hw1.symm; subst hw2)
        | (go_at_call_of 17 (Value.string t); refine (may_c t _ hs2).mono ?_; rintro e w9 ⟨rfl, hw1⟩; have hw2 := hw1.symm; subst hw2)
        | (go_at_call_of 30 (Value.string s); refine (rFit_c s m _ hs1 (by omega)).mono ?_; rintro e w1 ⟨rfl, hbb⟩; rw [← HA.out]; replace run := bel run hbb)
        | (go_at_call_of 30 (Value.string t); refine (rFit_c t m _ hs2 (by omega)).mono ?_; rintro e w2 ⟨rfl, hbb⟩; rw [← HB.out]; replace run := bel run hbb)
        | (go_at_call_of 20 (Value.string (S a)); refine (Unary_ok 7 (S a) _ (by rw [L_S]; exact HVA.out) (by omega) (by omega)).mono ?_; rintro e w4 ⟨rfl, hbb⟩; rw [L_S, una_not]; replace run := bel run hbb)
        | (go_at_call_of 20 (Value.string (S b)); refine (Unary_ok 7 (S b) _ (by rw [L_S]; exact HVB.out) (by omega) (by omega)).mono ?_; rintro e w5 ⟨rfl, hbb⟩; rw [L_S, una_not]; replace run := bel run hbb)
        | (go_at_call_of 16 (Value.string (S a)); refine (Binary_ok 23 (S a) (S b) _ (by rw [L_S]; exact HVA.out) (by rw [L_S]; exact HVB.out) (by omega) (by omega)).mono ?_; rintro e w6 ⟨rfl, hbb⟩; rw [L_S, L_S, bin_and a b HLAB.out]; replace run := bel run hbb)
        | (go_at_call_of 16 (Value.string (S (turnL a))); refine (Binary_ok 25 (S (turnL a)) (S (turnL b)) _ (by rw [L_S]; exact vec_turn HVA.out) (by rw [L_S]; exact vec_turn HVB.out) (by omega) (by omega)).mono ?_; rintro e w7 ⟨rfl, hbb⟩; rw [L_S, L_S, bin_or _ _ (by rw [len_turnL, len_turnL]; exact HLAB.out), ← HW.out]; replace run := bel run hbb)
        | (go_at_call_of 20 (Value.string (S (bitwise band a b))); refine (Unary_ok 7 (S (bitwise band a b)) _ (by rw [L_S]; exact vec_bitwise _ _ HVA.out band_bit) (by omega) (by omega)).mono ?_; rintro e w8 ⟨rfl, hbb⟩; rw [L_S, una_not]; replace run := bel run hbb)
        | (go_at_call_of 20 (Value.string (S (turnL a))); refine (Unary_ok 7 (S (turnL a)) _ (by rw [L_S]; exact vec_turn HVA.out) (by omega) (by omega)).mono ?_; rintro e w10 ⟨rfl, hbb⟩; rw [L_S, una_not]; replace run := bel run hbb)
        | (go_at_call 37; refine (knows_c (S (turnL (turnL a))) (S a) _ (by omega) (by rw [L_S, L_S]; exact HKN.out)).mono ?_; rintro e w11 ⟨rfl, hbb⟩; replace run := bel run hbb)
        | (go_at_call 19; refine (awake_c _).mono ?_; rintro e w3 ⟨rfl, hbb⟩; replace run := bel run hbb))
      go_ret
      exact ⟨rfl, run⟩
    · have vb' : vec (L t) = false := by simpa using vb
      go_enter Try.func11, Try.ntmps11
      go_wp2_with (first | (go_at_call 17; refine (may_c _ _ (by first | exact hs1 | exact hs2)).mono ?_; rintro e w9 ⟨rfl, hw1⟩; have hw2 := hw1.symm; subst hw2) | (go_at_call 19; refine (awake_c _).mono ?_; rintro e w3 ⟨rfl, hb3⟩))
      go_ret
      exact ⟨rfl, hb3⟩
  · have va' : vec (L s) = false := by simpa using va
    go_enter Try.func11, Try.ntmps11
    go_wp2_with (first | (go_at_call 17; refine (may_c _ _ (by first | exact hs1 | exact hs2)).mono ?_; rintro e w9 ⟨rfl, hw1⟩; have hw2 := hw1.symm; subst hw2) | (go_at_call 19; refine (awake_c _).mono ?_; rintro e w3 ⟨rfl, hb3⟩))
    go_ret
    exact ⟨rfl, hb3⟩
end Go.Proofs.Ytdacoincdkighaa
