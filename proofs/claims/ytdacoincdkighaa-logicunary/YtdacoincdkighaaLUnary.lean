/- The law LogicUnary: its walk. -/
import Derived.Test.YtdacoincdkighaaWX
namespace Go.Proofs.Ytdacoincdkighaa
open Go.RowKit Lg
set_option linter.unusedVariables false

theorem S_nil2 : S [] = ⟨#[]⟩ := rfl
theorem vec_zero : vec (L ⟨#[48]⟩) = true := by decide
set_option maxHeartbeats 2000000 in
theorem LogicUnary_c (op : Int) (s : ByteArray) (w : World) (hop : -9223372036854775808 ≤ op ∧ op ≤ 9223372036854775807) (hs1 : s.size ≤ maxLen) : Calls Try.prog 4 #[.int .i64 op, .string s] w fun e w' => e = .returned (.bool true) ∧ Below w.heap.size w w' := by
  clear hop
  by_cases h : op < 7 ∨ 12 < op
  · have HK : Hid _ := unaA_arg (a := L s) h
    have HO : Hid _ := h
    clear h
    go_enter Try.func4, Try.ntmps4
    go_wp2_with (first | (go_at_call 20; refine (Unary_c op s _ hs1).mono ?_; rintro e w1 ⟨rfl, hb1⟩; rw [HK.out.1, HK.out.2, S_nil2]) | (go_at_call 21; refine (rUnary_no op _ _ HO.out).mono ?_; rintro e w2 ⟨rfl, hb2⟩) | (go_at_call 19; refine (awake_c _).mono ?_; rintro e w3 ⟨rfl, hb3⟩))
    go_ret
    exact ⟨rfl, bel (bel hb1 hb2) hb3⟩
  have h1 : 7 ≤ op := by omega
  have h2 : op ≤ 12 := by omega
  by_cases va : vec (L s) = true
  · have HK : Hid _ := unaA_ok h1 h2 va
    clear h
    go_enter Try.func4, Try.ntmps4
    go_wp2_with (first | (go_at_call 20; refine (Unary_c op s _ hs1).mono ?_; rintro e w1 ⟨rfl, hb1⟩; rw [HK.out.1, HK.out.2]) | (go_at_call_of 21 (Value.string s); refine (rUnary_c op s _ va h1 h2).mono ?_; rintro e w4 ⟨rfl, hb4⟩) | (go_at_call 21; refine (rUnary_c op ⟨#[48]⟩ _ vec_zero h1 h2).mono ?_; rintro e w2 ⟨rfl, hb2⟩) | (go_at_call 17; refine (may_c _ _ (by exact hs1)).mono ?_; rintro e w9 ⟨rfl, hw1⟩; have hw2 := hw1.symm; subst hw2) | (go_at_call 19; refine (awake_c _).mono ?_; rintro e w3 ⟨rfl, hb3⟩))
    go_ret
    exact ⟨rfl, bel (bel (bel hb1 hb2) hb4) hb3⟩
  · have va' : vec (L s) = false := by simpa using va
    have HK : Hid _ := unaA_bad h1 h2 va'
    clear h
    go_enter Try.func4, Try.ntmps4
    go_wp2_with (first | (go_at_call 20; refine (Unary_c op s _ hs1).mono ?_; rintro e w1 ⟨rfl, hb1⟩; rw [HK.out.1, HK.out.2, S_nil2]) | (go_at_call 21; refine (rUnary_c op ⟨#[48]⟩ _ vec_zero h1 h2).mono ?_; rintro e w2 ⟨rfl, hb2⟩) | (go_at_call 17; refine (may_c _ _ (by exact hs1)).mono ?_; rintro e w9 ⟨rfl, hw1⟩; have hw2 := hw1.symm; subst hw2) | (go_at_call 19; refine (awake_c _).mono ?_; rintro e w3 ⟨rfl, hb3⟩))
    go_ret
    exact ⟨rfl, bel (bel hb1 hb2) hb3⟩
end Go.Proofs.Ytdacoincdkighaa
