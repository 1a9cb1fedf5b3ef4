/- The law LogicBinary: its walk. -/
import Derived.Test.YtdacoincdkighaaWX
namespace Go.Proofs.Ytdacoincdkighaa
open Go.RowKit Lg
set_option linter.unusedVariables false

theorem S_nil3 : S [] = ⟨#[]⟩ := rfl
theorem vec_zero3 : vec (L ⟨#[48]⟩) = true := by decide
set_option maxHeartbeats 4000000 in
theorem LogicBinary_c (op : Int) (s t : ByteArray) (w : World) (hop : -9223372036854775808 ≤ op ∧ op ≤ 9223372036854775807) (hs1 : s.size ≤ maxLen) (hs2 : t.size ≤ maxLen) : Calls Try.prog 3 #[.int .i64 op, .string s, .string t] w fun e w' => e = .returned (.bool true) ∧ Below w.heap.size w w' := by
  clear hop
  by_cases h : op < 13 ∨ 27 < op
  · have HK : Hid _ := binA_arg (a := L s) (b := L t) h
    have HO : Hid _ := h
    clear h
    by_cases va : vec (L s) = true
    · by_cases vb : vec (L t) = true
      · go_enter Try.func3, Try.ntmps3
        go_wp2_with (first | (go_at_call 16; refine (Binary_c op s t _ hs1 hs2).mono ?_; rintro e w1 ⟨rfl, hb1⟩; rw [HK.out.1, HK.out.2, S_nil3]) | (go_at_call 17; refine (may_c _ _ (by first | exact hs1 | exact hs2)).mono ?_; rintro e w9 ⟨rfl, hw1⟩; have hw2 := hw1.symm; subst hw2) | (go_at_call 18; refine (rBinary_no op s t _ va vb HO.out).mono ?_; rintro e w2 ⟨rfl, hb2⟩) | (go_at_call 19; refine (awake_c _).mono ?_; rintro e w3 ⟨rfl, hb3⟩))
        go_ret
        exact ⟨rfl, bel (bel hb1 hb2) hb3⟩
      · have vb' : vec (L t) = false := by simpa using vb
        go_enter Try.func3, Try.ntmps3
        go_wp2_with (first | (go_at_call 16; refine (Binary_c op s t _ hs1 hs2).mono ?_; rintro e w1 ⟨rfl, hb1⟩; rw [HK.out.1, HK.out.2, S_nil3]) | (go_at_call 17; refine (may_c _ _ (by first | exact hs1 | exact hs2)).mono ?_; rintro e w9 ⟨rfl, hw1⟩; have hw2 := hw1.symm; subst hw2) | (go_at_call 18; refine (rBinary_no op ⟨#[48]⟩ ⟨#[48]⟩ _ vec_zero3 vec_zero3 HO.out).mono ?_; rintro e w2 ⟨rfl, hb2⟩) | (go_at_call 19; refine (awake_c _).mono ?_; rintro e w3 ⟨rfl, hb3⟩))
        go_ret
        exact ⟨rfl, bel (bel hb1 hb2) hb3⟩
    · have va' : vec (L s) = false := by simpa using va
      go_enter Try.func3, Try.ntmps3
      go_wp2_with (first | (go_at_call 16; refine (Binary_c op s t _ hs1 hs2).mono ?_; rintro e w1 ⟨rfl, hb1⟩; rw [HK.out.1, HK.out.2, S_nil3]) | (go_at_call 17; refine (may_c _ _ (by first | exact hs1 | exact hs2)).mono ?_; rintro e w9 ⟨rfl, hw1⟩; have hw2 := hw1.symm; subst hw2) | (go_at_call 18; refine (rBinary_no op ⟨#[48]⟩ ⟨#[48]⟩ _ vec_zero3 vec_zero3 HO.out).mono ?_; rintro e w2 ⟨rfl, hb2⟩) | (go_at_call 19; refine (awake_c _).mono ?_; rintro e w3 ⟨rfl, hb3⟩))
      go_ret
      exact ⟨rfl, bel (bel hb1 hb2) hb3⟩
  have h1 : 13 ≤ op := by omega
  have h2 : op ≤ 27 := by omega
  clear h
  by_cases va : vec (L s) = true
  · by_cases vb : vec (L t) = true
    · have HK : Hid _ := binA_ok h1 h2 (show (vec (L s) && vec (L t)) = true by rw [va, vb]; rfl)
      go_enter Try.func3, Try.ntmps3
      go_wp2_with (first | (go_at_call 16; refine (Binary_c op s t _ hs1 hs2).mono ?_; rintro e w1 ⟨rfl, hb1⟩; rw [HK.out.1, HK.out.2]) | (go_at_call 17; refine (may_c _ _ (by first | exact hs1 | exact hs2)).mono ?_; rintro e w9 ⟨rfl, hw1⟩; have hw2 := hw1.symm; subst hw2) | (go_at_call 18; refine (rBinary_c op s t _ va vb h1 h2).mono ?_; rintro e w2 ⟨rfl, hb2⟩) | (go_at_call 19; refine (awake_c _).mono ?_; rintro e w3 ⟨rfl, hb3⟩))
      go_ret
      exact ⟨rfl, bel (bel hb1 hb2) hb3⟩
    · have vb' : vec (L t) = false := by simpa using vb
      have HK : Hid _ := binA_bad h1 h2 (show (vec (L s) && vec (L t)) = false by rw [vb']; simp)
      go_enter Try.func3, Try.ntmps3
      go_wp2_with (first | (go_at_call 16; refine (Binary_c op s t _ hs1 hs2).mono ?_; rintro e w1 ⟨rfl, hb1⟩; rw [HK.out.1, HK.out.2, S_nil3]) | (go_at_call 17; refine (may_c _ _ (by first | exact hs1 | exact hs2)).mono ?_; rintro e w9 ⟨rfl, hw1⟩; have hw2 := hw1.symm; subst hw2) | (go_at_call 18; refine (rBinary_c op ⟨#[48]⟩ ⟨#[48]⟩ _ vec_zero3 vec_zero3 h1 h2).mono ?_; rintro e w2 ⟨rfl, hb2⟩) | (go_at_call 19; refine (awake_c _).mono ?_; rintro e w3 ⟨rfl, hb3⟩))
      go_ret
      exact ⟨rfl, bel (bel hb1 hb2) hb3⟩
  · have va' : vec (L s) = false := by simpa using va
    have HK : Hid _ := binA_bad h1 h2 (show (vec (L s) && vec (L t)) = false by rw [va']; simp)
    go_enter Try.func3, Try.ntmps3
    go_wp2_with (first | (go_at_call 16; refine (Binary_c op s t _ hs1 hs2).mono ?_; rintro e w1 ⟨rfl, hb1⟩; rw [HK.out.1, HK.out.2, S_nil3]) | (go_at_call 17; refine (may_c _ _ (by first | exact hs1 | exact hs2)).mono ?_; rintro e w9 ⟨rfl, hw1⟩; have hw2 := hw1.symm; subst hw2) | (go_at_call 18; refine (rBinary_c op ⟨#[48]⟩ ⟨#[48]⟩ _ vec_zero3 vec_zero3 h1 h2).mono ?_; rintro e w2 ⟨rfl, hb2⟩) | (go_at_call 19; refine (awake_c _).mono ?_; rintro e w3 ⟨rfl, hb3⟩))
    go_ret
    exact ⟨rfl, bel (bel hb1 hb2) hb3⟩
end Go.Proofs.Ytdacoincdkighaa
