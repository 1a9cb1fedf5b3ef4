/- Layer 1: what is called from outside, more; and that the program is awake. -/
import Derived.Test.YtdacoincdkighaaWJ
namespace Go.Proofs.Ytdacoincdkighaa
open Go.RowKit Lg
set_option linter.unusedVariables false

theorem aw1 (w : World) : Calls Try.prog 16 #[.int .i64 13, .string ⟨#[48, 49]⟩, .string ⟨#[49, 120]⟩] w fun e w' => e = .returned (.tuple #[.string ⟨#[120, 120]⟩, .int .i64 0]) ∧ Below w.heap.size w w' := by
  refine (Binary_c 13 ⟨#[48, 49]⟩ ⟨#[49, 120]⟩ w (by decide) (by decide)).mono ?_
  rintro e w' ⟨rfl, hb⟩
  exact ⟨by kernel_rfl, hb⟩
theorem aw2 (w : World) : Calls Try.prog 16 #[.int .i64 23, .string ⟨#[48, 122, 49]⟩, .string ⟨#[120, 120, 49]⟩] w fun e w' => e = .returned (.tuple #[.string ⟨#[48, 120, 49]⟩, .int .i64 0]) ∧ Below w.heap.size w w' := by
  refine (Binary_c 23 ⟨#[48, 122, 49]⟩ ⟨#[120, 120, 49]⟩ w (by decide) (by decide)).mono ?_
  rintro e w' ⟨rfl, hb⟩
  exact ⟨by kernel_rfl, hb⟩
theorem aw3 (w : World) : Calls Try.prog 22 #[.string ⟨#[120]⟩, .string ⟨#[48, 49]⟩, .string ⟨#[48, 48]⟩] w fun e w' => e = .returned (.tuple #[.string ⟨#[48, 120]⟩, .int .i64 0]) ∧ Below w.heap.size w w' := by
  refine (Cond_c ⟨#[120]⟩ ⟨#[48, 49]⟩ ⟨#[48, 48]⟩ w (by decide) (by decide) (by decide)).mono ?_
  rintro e w' ⟨rfl, hb⟩
  exact ⟨by kernel_rfl, hb⟩
set_option maxHeartbeats 1000000 in
theorem awake_c (w : World) : Calls Try.prog 19 #[] w fun e w' => e = .returned (.bool true) ∧ Below w.heap.size w w' := by
  go_enter Try.func19, Try.ntmps19
  go_wp2_with fail
  refine (aw1 _).mono ?_
  rintro e w1 ⟨rfl, hb1⟩
  go_wp2_with fail
  refine (aw2 _).mono ?_
  rintro e w2 ⟨rfl, hb2⟩
  go_wp2_with fail
  refine (aw3 _).mono ?_
  rintro e w3 ⟨rfl, hb3⟩
  go_wp2
  go_ret
  exact ⟨rfl, bel (bel hb1 hb2) hb3⟩

def chkE (a : List UInt8) : Int := if vec a then 0 else 10
set_option maxHeartbeats 400000 in
theorem Check_c (s : ByteArray) (w : World) (hs1 : s.size ≤ maxLen) : Calls Try.prog 29 #[.string s] w fun e w' => e = .returned (.int .i64 (chkE (L s))) ∧ Below w.heap.size w w' := by
  by_cases h3 : vec (L s) = true
  · go_enter Try.func29, Try.ntmps29
    go_wp2_with (go_at_call 40; refine (vectors1_c s _ hs1).mono ?_; rintro e w1 ⟨rfl, rfl⟩)
    go_ret
    exact ⟨ret_int (by unfold chkE; rw [if_pos h3]), belA (Below.refl _ _) _⟩
  · have h3' : vec (L s) = false := by simpa using h3
    go_enter Try.func29, Try.ntmps29
    go_wp2_with (go_at_call 40; refine (vectors1_c s _ hs1).mono ?_; rintro e w1 ⟨rfl, rfl⟩)
    go_ret
    exact ⟨ret_int (by unfold chkE; rw [if_neg h3]), belA (Below.refl _ _) _⟩

def fitA (a : List UInt8) (n : Int) : List UInt8 := if n < 1 ∨ 256 < n then [] else if vec a then fit a n.toNat else []
def fitE (a : List UInt8) (n : Int) : Int := if n < 1 ∨ 256 < n then 1 else if vec a then 0 else 10
set_option maxHeartbeats 400000 in
theorem Fit_c (s : ByteArray) (n : Int) (w : World) (hs1 : s.size ≤ maxLen) : Calls Try.prog 24 #[.string s, .int .i64 n] w fun e w' => e = .returned (.tuple #[.string (S (fitA (L s) n)), .int .i64 (fitE (L s) n)]) ∧ Below w.heap.size w w' := by
  by_cases h1 : n < 1 ∨ 256 < n
  · have hb : widB n = false := by unfold widB; simp; omega
    have hk : fitA (L s) n = [] ∧ fitE (L s) n = 1 := by unfold fitA fitE; rw [if_pos h1, if_pos h1]; exact ⟨rfl, rfl⟩
    have HK : Hid _ := hk
    clear h1 hk
    go_enter Try.func24, Try.ntmps24
    go_wp2_with (go_at_call 58; refine (width_c _ _).mono ?_; rintro e w1 ⟨rfl, rfl⟩)
    go_ret2
    exact ⟨tup2 HK.out, Below.refl _ _⟩
  · have hb : widB n = true := by unfold widB; simp; omega
    obtain ⟨m, rfl⟩ := Int.eq_ofNat_of_zero_le (show 0 ≤ n by omega)
    by_cases h3 : vec (L s) = true
    · have hk : fitA (L s) m = fit (L s) m ∧ fitE (L s) m = 0 := by unfold fitA fitE; rw [if_neg h1, if_neg h1, if_pos h3, if_pos h3]; exact ⟨rfl, rfl⟩
      have HK : Hid _ := hk
      have hm1 : 1 ≤ m := by omega
      have hm2 : m ≤ 256 := by omega
      clear h1 hk
      go_enter Try.func24, Try.ntmps24
      go_wp2_with (first | (go_at_call 58; refine (width_c _ _).mono ?_; rintro e w1 ⟨rfl, rfl⟩) | (go_at_call 40; refine (vectors1_c s _ hs1).mono ?_; rintro e w1 ⟨rfl, rfl⟩) | (go_at_call 59; refine (fit_c s m _ hs1 hm1 (by omega)).mono ?_; rintro e w2 ⟨rfl, hb2⟩))
      go_ret2
      exact ⟨tup2 HK.out, bel (belA (Below.refl _ _) _) (by assumption)⟩
    · have h3' : vec (L s) = false := by simpa using h3
      have hk : fitA (L s) m = [] ∧ fitE (L s) m = 10 := by unfold fitA fitE; rw [if_neg h1, if_neg h1, if_neg h3, if_neg h3]; exact ⟨rfl, rfl⟩
      have HK : Hid _ := hk
      clear h1 hk
      go_enter Try.func24, Try.ntmps24
      go_wp2_with (first | (go_at_call 58; refine (width_c _ _).mono ?_; rintro e w1 ⟨rfl, rfl⟩) | (go_at_call 40; refine (vectors1_c s _ hs1).mono ?_; rintro e w1 ⟨rfl, rfl⟩))
      go_ret2
      exact ⟨tup2 HK.out, belA (Below.refl _ _) _⟩

set_option maxHeartbeats 400000 in
theorem Truth_c (s : ByteArray) (w : World) (hs1 : s.size ≤ maxLen) : Calls Try.prog 28 #[.string s] w fun e w' => e = .returned (.tuple #[.int .u8 (if vec (L s) then (tru (L s)).toNat else 0 : Int), .int .i64 (chkE (L s))]) ∧ Below w.heap.size w w' := by
  by_cases h3 : vec (L s) = true
  · rw [if_pos h3]
    go_enter Try.func28, Try.ntmps28
    go_wp2_with (first | (go_at_call 40; refine (vectors1_c s _ hs1).mono ?_; rintro e w1 ⟨rfl, rfl⟩) | (go_at_call 55; refine (truth_c s _ hs1).mono ?_; rintro e w2 ⟨rfl, hb2⟩))
    go_ret2
    exact ⟨by unfold chkE; rw [if_pos h3]; rfl, bel (belA (Below.refl _ _) _) (by assumption)⟩
  · rw [if_neg h3]
    have h3' : vec (L s) = false := by simpa using h3
    go_enter Try.func28, Try.ntmps28
    go_wp2_with (first | (go_at_call 40; refine (vectors1_c s _ hs1).mono ?_; rintro e w1 ⟨rfl, rfl⟩))
    go_ret2
    exact ⟨by unfold chkE; rw [if_neg h3]; rfl, belA (Below.refl _ _) _⟩
end Go.Proofs.Ytdacoincdkighaa
