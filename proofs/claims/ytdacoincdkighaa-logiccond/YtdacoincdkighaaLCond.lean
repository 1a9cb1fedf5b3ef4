/- The law LogicCond: its walk. -/
import Derived.Test.YtdacoincdkighaaWX
namespace Go.Proofs.Ytdacoincdkighaa
open Go.RowKit Lg
set_option linter.unusedVariables false

theorem S_nil' : S [] = ⟨#[]⟩ := rfl
set_option maxHeartbeats 2000000 in
theorem LogicCond_c (c s t : ByteArray) (w : World) (hs0 : c.size ≤ maxLen) (hs1 : s.size ≤ maxLen) (hs2 : t.size ≤ maxLen) : Calls Try.prog 5 #[.string c, .string s, .string t] w fun e w' => e = .returned (.bool true) ∧ Below w.heap.size w w' := by
  by_cases va : vec (L s) = true
  · by_cases vb : vec (L t) = true
    · by_cases vc : vec (L c) = true
      · have v1 := vec_len va
        rw [len_L] at v1
        obtain ⟨v1a, v1b⟩ := v1
        by_cases h4 : s.size = t.size
        · have HL : Hid (s.size = t.size) := h4
          have hb : ((s.size : Int) != (t.size : Int)) = false := by simp [h4]
          have HK : Hid _ := conA_ok (show (vec (L c) && (vec (L s) && vec (L t))) = true by rw [va, vb, vc]; rfl) (by rw [len_L, len_L, h4])
          clear h4
          go_enter Try.func5, Try.ntmps5
          go_wp2_with (first | (go_at_call 22; refine (Cond_c c s t _ hs0 hs1 hs2).mono ?_; rintro e w1 ⟨rfl, hb1⟩; rw [HK.out.1, HK.out.2]) | (go_at_call 17; refine (may_c _ _ (by first | exact hs0 | exact hs1 | exact hs2)).mono ?_; rintro e w9 ⟨rfl, hw1⟩; have hw2 := hw1.symm; subst hw2) | (go_at_call 23; refine (rCond_c c s t _ hs0 HL.out (by omega)).mono ?_; rintro e w4 ⟨rfl, hb4⟩) | (go_at_call 19; refine (awake_c _).mono ?_; rintro e w3 ⟨rfl, hb3⟩))
          go_ret
          exact ⟨rfl, bel (bel hb1 hb4) hb3⟩
        · have hb : ((s.size : Int) != (t.size : Int)) = true := by simp; omega
          have HK : Hid _ := conA_arg (show (vec (L c) && (vec (L s) && vec (L t))) = true by rw [va, vb, vc]; rfl) (by rw [len_L, len_L]; exact h4)
          clear h4
          go_enter Try.func5, Try.ntmps5
          go_wp2_with (first | (go_at_call 22; refine (Cond_c c s t _ hs0 hs1 hs2).mono ?_; rintro e w1 ⟨rfl, hb1⟩; rw [HK.out.1, HK.out.2, S_nil']) | (go_at_call 17; refine (may_c _ _ (by first | exact hs0 | exact hs1 | exact hs2)).mono ?_; rintro e w9 ⟨rfl, hw1⟩; have hw2 := hw1.symm; subst hw2) | (go_at_call 19; refine (awake_c _).mono ?_; rintro e w3 ⟨rfl, hb3⟩))
          go_ret
          exact ⟨rfl, bel hb1 hb3⟩
      · have vc' : vec (L c) = false := by simpa using vc
        have HK : Hid (conA (L c) (L s) (L t) = [] ∧ conE (L c) (L s) (L t) = 10) := conA_bad (by rw [vc']; rfl)
        go_enter Try.func5, Try.ntmps5
        go_wp2_with (first | (go_at_call 22; refine (Cond_c c s t _ hs0 hs1 hs2).mono ?_; rintro e w1 ⟨rfl, hb1⟩; rw [HK.out.1, HK.out.2, S_nil']) | (go_at_call 17; refine (may_c _ _ (by first | exact hs0 | exact hs1 | exact hs2)).mono ?_; rintro e w9 ⟨rfl, hw1⟩; have hw2 := hw1.symm; subst hw2) | (go_at_call 19; refine (awake_c _).mono ?_; rintro e w3 ⟨rfl, hb3⟩))
        go_ret
        exact ⟨rfl, bel hb1 hb3⟩
    · have vb' : vec (L t) = false := by simpa using vb
      have HK : Hid (conA (L c) (L s) (L t) = [] ∧ conE (L c) (L s) (L t) = 10) := conA_bad (by rw [vb']; simp)
      go_enter Try.func5, Try.ntmps5
      go_wp2_with (first | (go_at_call 22; refine (Cond_c c s t _ hs0 hs1 hs2).mono ?_; rintro e w1 ⟨rfl, hb1⟩; rw [HK.out.1, HK.out.2, S_nil']) | (go_at_call 17; refine (may_c _ _ (by first | exact hs0 | exact hs1 | exact hs2)).mono ?_; rintro e w9 ⟨rfl, hw1⟩; have hw2 := hw1.symm; subst hw2) | (go_at_call 19; refine (awake_c _).mono ?_; rintro e w3 ⟨rfl, hb3⟩))
      go_ret
      exact ⟨rfl, bel hb1 hb3⟩
  · have va' : vec (L s) = false := by simpa using va
    have HK : Hid (conA (L c) (L s) (L t) = [] ∧ conE (L c) (L s) (L t) = 10) := conA_bad (by rw [va']; simp)
    go_enter Try.func5, Try.ntmps5
    go_wp2_with (first | (go_at_call 22; refine (Cond_c c s t _ hs0 hs1 hs2).mono ?_; rintro e w1 ⟨rfl, hb1⟩; rw [HK.out.1, HK.out.2, S_nil']) | (go_at_call 17; refine (may_c _ _ (by first | exact hs0 | exact hs1 | exact hs2)).mono ?_; rintro e w9 ⟨rfl, hw1⟩; have hw2 := hw1.symm; subst hw2) | (go_at_call 19; refine (awake_c _).mono ?_; rintro e w3 ⟨rfl, hb3⟩))
    go_ret
    exact ⟨rfl, bel hb1 hb3⟩
end Go.Proofs.Ytdacoincdkighaa
