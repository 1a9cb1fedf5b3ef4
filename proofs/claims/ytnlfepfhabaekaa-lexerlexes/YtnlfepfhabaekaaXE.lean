/- Layer 2 of the program: kinds of bytes, how far they go, signs, comments. -/
import Derived.Test.YtnlfepfhabaekaaXB
import Derived.Test.YtnlfepfhabaekaaMathM
namespace Go.Proofs.Ytnlfepfhabaekaa
open Go.RowKit Lg
set_option linter.unusedVariables false
set_option linter.unusedSimpArgs false

theorem cb (c d : UInt8) : (((c.toNat : Nat) : Int) == ((d.toNat : Nat) : Int)) = (c == d) := by
  rw [Bool.eq_iff_iff, beq_iff_eq, beq_iff_eq, ← UInt8.toNat_inj]; omega
theorem ix_has (l : List UInt8) (c : UInt8) : (0 ≤ Lib.indexByte l c) ↔ l.contains c = true := by
  induction l with
  | nil => simp [Lib.indexByte]
  | cons b l ih =>
    simp only [Lib.indexByte, List.contains_cons]
    by_cases h : b = c
    · subst h; simp
    · have h1 : (b == c) = false := by simpa using h
      have h2 : (c == b) = false := by simpa using fun e => h e.symm
      have hge := Lib.indexByte_ge l c
      rw [h1, h2]
      by_cases h3 : Lib.indexByte l c = -1
      · rw [h3]; rw [h3] at ih; simpa using ih
      · have h4 : (Lib.indexByte l c == -1) = false := by simpa using h3
        rw [h4]
        simp
        constructor
        · intro _; have := ih.1 (by omega); simpa using this
        · intro h; have := ih.2 (by simpa using h); omega
def sgI (c : UInt8) : Int := Lib.indexByte signs c
theorem sgI_yes {c : UInt8} (h : sgnB c = true) : 0 ≤ sgI c := (ix_has signs c).2 h
theorem sgI_no {c : UInt8} (h : sgnB c = false) : sgI c < 0 := by
  have := (ix_has signs c)
  unfold sgI
  rcases Int.lt_or_le (Lib.indexByte signs c) 0 with h1 | h1
  · exact h1
  · have := this.1 h1; unfold sgnB at h; rw [this] at h; cases h
theorem index_c (c : UInt8) (w : World) : Calls Try.prog 61 #[.string ⟨#[40, 41, 91, 93, 123, 125, 44, 59, 58, 46, 35, 64, 63, 43, 45, 126, 33, 38, 124, 94, 61, 60, 62, 42]⟩, .int .u8 c.toNat] w fun e w' => e = .returned (.int .i64 (sgI c)) ∧ w' = w := by
  refine (Try.strings_IndexByte _ _ _).mono ?_
  rintro e w' ⟨rfl, rfl⟩
  refine ⟨ret_int ?_, rfl⟩
  unfold sgI signs
  congr 1
  simp

set_option maxHeartbeats 4000000 in
theorem kindsOf_c (c : UInt8) (w : World) : Calls Try.prog 35 #[.int .u8 c.toNat] w fun e w' => e = .returned (.int .i64 (kinds c)) ∧ w' = w := by
  rcases kcases c with h | h | h | h | h | h | h | h | h
  · obtain ⟨h1, hk⟩ := h
    have HK : Hid _ := hk
    clear hk
    go_enter Try.func35, Try.ntmps35
    go_wp2_with (first | (go_at_call 59; refine (isLetter_c c _).mono ?_; rintro e w' ⟨rfl, rfl⟩) | (go_at_call 60; refine (isDigit_c c _).mono ?_; rintro e w' ⟨rfl, rfl⟩) | (go_at_call 61; refine (index_c c _).mono ?_; rintro e w' ⟨rfl, rfl⟩))
    go_ret
    exact ⟨ret_int (by first | (rw [HK.out]; done) | (rw [HK.out]; rfl)), rfl⟩
  · obtain ⟨h1, h2, hk⟩ := h
    have HK : Hid _ := hk
    clear hk
    go_enter Try.func35, Try.ntmps35
    go_wp2_with (first | (go_at_call 59; refine (isLetter_c c _).mono ?_; rintro e w' ⟨rfl, rfl⟩) | (go_at_call 60; refine (isDigit_c c _).mono ?_; rintro e w' ⟨rfl, rfl⟩) | (go_at_call 61; refine (index_c c _).mono ?_; rintro e w' ⟨rfl, rfl⟩))
    go_ret
    exact ⟨ret_int (by first | (rw [HK.out]; done) | (rw [HK.out]; rfl)), rfl⟩
  · obtain ⟨hc, hk⟩ := h
    have h1 : letB c = false := by rw [hc]; decide
    have h2 : digB c = false := by rw [hc]; decide
    have e39 : (((c.toNat : Nat) : Int) == 39) = true := by have := cb c 39; rw [hc] at this; rw [hc]; exact this
    have HK : Hid _ := hk
    clear hk hc
    go_enter Try.func35, Try.ntmps35
    go_wp2_with (first | (go_at_call 59; refine (isLetter_c c _).mono ?_; rintro e w' ⟨rfl, rfl⟩) | (go_at_call 60; refine (isDigit_c c _).mono ?_; rintro e w' ⟨rfl, rfl⟩) | (go_at_call 61; refine (index_c c _).mono ?_; rintro e w' ⟨rfl, rfl⟩))
    go_ret
    exact ⟨ret_int (by first | (rw [HK.out]; done) | (rw [HK.out]; rfl)), rfl⟩
  · obtain ⟨hc, hk⟩ := h
    have h1 : letB c = false := by rw [hc]; decide
    have h2 : digB c = false := by rw [hc]; decide
    have e39 : (((c.toNat : Nat) : Int) == 39) = false := by have := cb c 39; rw [hc] at this; rw [hc]; exact this
    have e10 : (((c.toNat : Nat) : Int) == 10) = true := by have := cb c 10; rw [hc] at this; rw [hc]; exact this
    have HK : Hid _ := hk
    clear hk hc
    go_enter Try.func35, Try.ntmps35
    go_wp2_with (first | (go_at_call 59; refine (isLetter_c c _).mono ?_; rintro e w' ⟨rfl, rfl⟩) | (go_at_call 60; refine (isDigit_c c _).mono ?_; rintro e w' ⟨rfl, rfl⟩) | (go_at_call 61; refine (index_c c _).mono ?_; rintro e w' ⟨rfl, rfl⟩))
    go_ret
    exact ⟨ret_int (by first | (rw [HK.out]; done) | (rw [HK.out]; rfl)), rfl⟩
  · obtain ⟨hc, hk⟩ := h
    rcases hc with hc | hc | hc
    · have h1 : letB c = false := by rw [hc]; decide
      have h2 : digB c = false := by rw [hc]; decide
      have e39 : (((c.toNat : Nat) : Int) == 39) = false := by have := cb c 39; rw [hc] at this; rw [hc]; exact this
      have e10 : (((c.toNat : Nat) : Int) == 10) = false := by have := cb c 10; rw [hc] at this; rw [hc]; exact this
      have e9 : (((c.toNat : Nat) : Int) == 9) = true := by have := cb c 9; rw [hc] at this; rw [hc]; exact this
      have HK : Hid _ := hk
      clear hk hc
      go_enter Try.func35, Try.ntmps35
      go_wp2_with (first | (go_at_call 59; refine (isLetter_c c _).mono ?_; rintro e w' ⟨rfl, rfl⟩) | (go_at_call 60; refine (isDigit_c c _).mono ?_; rintro e w' ⟨rfl, rfl⟩) | (go_at_call 61; refine (index_c c _).mono ?_; rintro e w' ⟨rfl, rfl⟩))
      go_ret
      exact ⟨ret_int (by first | (rw [HK.out]; done) | (rw [HK.out]; rfl)), rfl⟩
    · have h1 : letB c = false := by rw [hc]; decide
      have h2 : digB c = false := by rw [hc]; decide
      have e39 : (((c.toNat : Nat) : Int) == 39) = false := by have := cb c 39; rw [hc] at this; rw [hc]; exact this
      have e10 : (((c.toNat : Nat) : Int) == 10) = false := by have := cb c 10; rw [hc] at this; rw [hc]; exact this
      have e9 : (((c.toNat : Nat) : Int) == 9) = false := by have := cb c 9; rw [hc] at this; rw [hc]; exact this
      have e13 : (((c.toNat : Nat) : Int) == 13) = true := by have := cb c 13; rw [hc] at this; rw [hc]; exact this
      have HK : Hid _ := hk
      clear hk hc
      go_enter Try.func35, Try.ntmps35
      go_wp2_with (first | (go_at_call 59; refine (isLetter_c c _).mono ?_; rintro e w' ⟨rfl, rfl⟩) | (go_at_call 60; refine (isDigit_c c _).mono ?_; rintro e w' ⟨rfl, rfl⟩) | (go_at_call 61; refine (index_c c _).mono ?_; rintro e w' ⟨rfl, rfl⟩))
      go_ret
      exact ⟨ret_int (by first | (rw [HK.out]; done) | (rw [HK.out]; rfl)), rfl⟩
    · have h1 : letB c = false := by rw [hc]; decide
      have h2 : digB c = false := by rw [hc]; decide
      have e39 : (((c.toNat : Nat) : Int) == 39) = false := by have := cb c 39; rw [hc] at this; rw [hc]; exact this
      have e10 : (((c.toNat : Nat) : Int) == 10) = false := by have := cb c 10; rw [hc] at this; rw [hc]; exact this
      have e9 : (((c.toNat : Nat) : Int) == 9) = false := by have := cb c 9; rw [hc] at this; rw [hc]; exact this
      have e13 : (((c.toNat : Nat) : Int) == 13) = false := by have := cb c 13; rw [hc] at this; rw [hc]; exact this
      have e32 : (((c.toNat : Nat) : Int) == 32) = true := by have := cb c 32; rw [hc] at this; rw [hc]; exact this
      have HK : Hid _ := hk
      clear hk hc
      go_enter Try.func35, Try.ntmps35
      go_wp2_with (first | (go_at_call 59; refine (isLetter_c c _).mono ?_; rintro e w' ⟨rfl, rfl⟩) | (go_at_call 60; refine (isDigit_c c _).mono ?_; rintro e w' ⟨rfl, rfl⟩) | (go_at_call 61; refine (index_c c _).mono ?_; rintro e w' ⟨rfl, rfl⟩))
      go_ret
      exact ⟨ret_int (by first | (rw [HK.out]; done) | (rw [HK.out]; rfl)), rfl⟩
  · obtain ⟨hc, hk⟩ := h
    have h1 : letB c = false := by rw [hc]; decide
    have h2 : digB c = false := by rw [hc]; decide
    have e39 : (((c.toNat : Nat) : Int) == 39) = false := by have := cb c 39; rw [hc] at this; rw [hc]; exact this
    have e10 : (((c.toNat : Nat) : Int) == 10) = false := by have := cb c 10; rw [hc] at this; rw [hc]; exact this
    have e9 : (((c.toNat : Nat) : Int) == 9) = false := by have := cb c 9; rw [hc] at this; rw [hc]; exact this
    have e13 : (((c.toNat : Nat) : Int) == 13) = false := by have := cb c 13; rw [hc] at this; rw [hc]; exact this
    have e32 : (((c.toNat : Nat) : Int) == 32) = false := by have := cb c 32; rw [hc] at this; rw [hc]; exact this
    have e47 : (((c.toNat : Nat) : Int) == 47) = true := by have := cb c 47; rw [hc] at this; rw [hc]; exact this
    have HK : Hid _ := hk
    clear hk hc
    go_enter Try.func35, Try.ntmps35
    go_wp2_with (first | (go_at_call 59; refine (isLetter_c c _).mono ?_; rintro e w' ⟨rfl, rfl⟩) | (go_at_call 60; refine (isDigit_c c _).mono ?_; rintro e w' ⟨rfl, rfl⟩) | (go_at_call 61; refine (index_c c _).mono ?_; rintro e w' ⟨rfl, rfl⟩))
    go_ret
    exact ⟨ret_int (by first | (rw [HK.out]; done) | (rw [HK.out]; rfl)), rfl⟩
  · obtain ⟨hc, hk⟩ := h
    have h1 : letB c = false := by rw [hc]; decide
    have h2 : digB c = false := by rw [hc]; decide
    have e39 : (((c.toNat : Nat) : Int) == 39) = false := by have := cb c 39; rw [hc] at this; rw [hc]; exact this
    have e10 : (((c.toNat : Nat) : Int) == 10) = false := by have := cb c 10; rw [hc] at this; rw [hc]; exact this
    have e9 : (((c.toNat : Nat) : Int) == 9) = false := by have := cb c 9; rw [hc] at this; rw [hc]; exact this
    have e13 : (((c.toNat : Nat) : Int) == 13) = false := by have := cb c 13; rw [hc] at this; rw [hc]; exact this
    have e32 : (((c.toNat : Nat) : Int) == 32) = false := by have := cb c 32; rw [hc] at this; rw [hc]; exact this
    have e47 : (((c.toNat : Nat) : Int) == 47) = false := by have := cb c 47; rw [hc] at this; rw [hc]; exact this
    have e96 : (((c.toNat : Nat) : Int) == 96) = true := by have := cb c 96; rw [hc] at this; rw [hc]; exact this
    have HK : Hid _ := hk
    clear hk hc
    go_enter Try.func35, Try.ntmps35
    go_wp2_with (first | (go_at_call 59; refine (isLetter_c c _).mono ?_; rintro e w' ⟨rfl, rfl⟩) | (go_at_call 60; refine (isDigit_c c _).mono ?_; rintro e w' ⟨rfl, rfl⟩) | (go_at_call 61; refine (index_c c _).mono ?_; rintro e w' ⟨rfl, rfl⟩))
    go_ret
    exact ⟨ret_int (by first | (rw [HK.out]; done) | (rw [HK.out]; rfl)), rfl⟩
  · obtain ⟨h1, h2, h3, hk⟩ := h
    have hi := sgI_yes h3
    have e39 : (((c.toNat : Nat) : Int) == 39) = false := (cb c 39).trans (by rw [beq_eq_false_iff_ne]; rintro rfl; exact absurd h3 (by decide))
    have e10 : (((c.toNat : Nat) : Int) == 10) = false := (cb c 10).trans (by rw [beq_eq_false_iff_ne]; rintro rfl; exact absurd h3 (by decide))
    have e9 : (((c.toNat : Nat) : Int) == 9) = false := (cb c 9).trans (by rw [beq_eq_false_iff_ne]; rintro rfl; exact absurd h3 (by decide))
    have e13 : (((c.toNat : Nat) : Int) == 13) = false := (cb c 13).trans (by rw [beq_eq_false_iff_ne]; rintro rfl; exact absurd h3 (by decide))
    have e32 : (((c.toNat : Nat) : Int) == 32) = false := (cb c 32).trans (by rw [beq_eq_false_iff_ne]; rintro rfl; exact absurd h3 (by decide))
    have e47 : (((c.toNat : Nat) : Int) == 47) = false := (cb c 47).trans (by rw [beq_eq_false_iff_ne]; rintro rfl; exact absurd h3 (by decide))
    have e96 : (((c.toNat : Nat) : Int) == 96) = false := (cb c 96).trans (by rw [beq_eq_false_iff_ne]; rintro rfl; exact absurd h3 (by decide))
    have HK : Hid _ := hk
    clear hk
    go_enter Try.func35, Try.ntmps35
    go_wp2_with (first | (go_at_call 59; refine (isLetter_c c _).mono ?_; rintro e w' ⟨rfl, rfl⟩) | (go_at_call 60; refine (isDigit_c c _).mono ?_; rintro e w' ⟨rfl, rfl⟩) | (go_at_call 61; refine (index_c c _).mono ?_; rintro e w' ⟨rfl, rfl⟩))
    go_ret
    exact ⟨ret_int (by first | (rw [HK.out]; done) | (rw [HK.out]; rfl)), rfl⟩
  · obtain ⟨h1, h2, h3, n39, n10, n9, n13, n32, n47, n96, hk⟩ := h
    have hi := sgI_no h3
    have e39 : (((c.toNat : Nat) : Int) == 39) = false := (cb c 39).trans (by rw [beq_eq_false_iff_ne]; exact n39)
    have e10 : (((c.toNat : Nat) : Int) == 10) = false := (cb c 10).trans (by rw [beq_eq_false_iff_ne]; exact n10)
    have e9 : (((c.toNat : Nat) : Int) == 9) = false := (cb c 9).trans (by rw [beq_eq_false_iff_ne]; exact n9)
    have e13 : (((c.toNat : Nat) : Int) == 13) = false := (cb c 13).trans (by rw [beq_eq_false_iff_ne]; exact n13)
    have e32 : (((c.toNat : Nat) : Int) == 32) = false := (cb c 32).trans (by rw [beq_eq_false_iff_ne]; exact n32)
    have e47 : (((c.toNat : Nat) : Int) == 47) = false := (cb c 47).trans (by rw [beq_eq_false_iff_ne]; exact n47)
    have e96 : (((c.toNat : Nat) : Int) == 96) = false := (cb c 96).trans (by rw [beq_eq_false_iff_ne]; exact n96)
    have HK : Hid _ := hk
    clear hk n39 n10 n9 n13 n32 n47 n96
    go_enter Try.func35, Try.ntmps35
    go_wp2_with (first | (go_at_call 59; refine (isLetter_c c _).mono ?_; rintro e w' ⟨rfl, rfl⟩) | (go_at_call 60; refine (isDigit_c c _).mono ?_; rintro e w' ⟨rfl, rfl⟩) | (go_at_call 61; refine (index_c c _).mono ?_; rintro e w' ⟨rfl, rfl⟩))
    go_ret
    exact ⟨ret_int (by first | (rw [HK.out]; done) | (rw [HK.out]; rfl)), rfl⟩
end Go.Proofs.Ytnlfepfhabaekaa
