/- Layer 1: parts, bits, numbers, and when a clock rises. -/
import Derived.Test.YtdacoincdkighaaWK
namespace Go.Proofs.Ytdacoincdkighaa
open Go.RowKit Lg
set_option linter.unusedVariables false

/-- when a clock rises, of the two last bytes -/
def riseI (x y : Int) : Bool := if x = 48 then y != 48 else if x = 49 then false else y == 49
def lastI (l : List UInt8) : Int := ((l.getD (l.length - 1) 0).toNat : Int)
def riseB (a b : List UInt8) : Bool := vec a && (vec b && riseI (lastI a) (lastI b))
theorem lastI_at (s : ByteArray) (i : Nat) (hi : s.size = i + 1) (h : i < s.size) : lastI (L s) = ((s[i].toNat : Nat) : Int) := by
  unfold lastI; rw [len_L, show s.size - 1 = i by omega, at_getD]
theorem rise_of {a b : List UInt8} (h : (vec a && vec b) = true) : riseB a b = riseI (lastI a) (lastI b) := by
  simp only [Bool.and_eq_true] at h; unfold riseB; rw [h.1, h.2]; rfl
theorem rise_no {a b : List UInt8} (h : (vec a && vec b) = false) : riseB a b = false := by
  unfold riseB; cases h1 : vec a <;> cases h2 : vec b <;> simp_all

set_option maxHeartbeats 1000000 in
theorem Rise_c (s t : ByteArray) (w : World) (hs1 : s.size ≤ maxLen) (hs2 : t.size ≤ maxLen) : Calls Try.prog 38 #[.string s, .string t] w fun e w' => e = .returned (.bool (riseB (L s) (L t))) ∧ Below w.heap.size w w' := by
  by_cases h3 : (vec (L s) && vec (L t)) = true
  · have HV : Hid ((vec (L s) && vec (L t)) = true) := h3
    have h4 := (Bool.and_eq_true _ _).mp h3
    have v1 := vec_len h4.1
    have v2 := vec_len h4.2
    rw [len_L] at v1 v2
    obtain ⟨i, hi⟩ : ∃ i, s.size = i + 1 := ⟨s.size - 1, by omega⟩
    obtain ⟨j, hj⟩ : ∃ j, t.size = j + 1 := ⟨t.size - 1, by omega⟩
    have hi1 : i < s.size := by omega
    have hj1 : j < t.size := by omega
    have hi2 : (i : Int) < (s.size : Int) := by omega
    have hj2 : (j : Int) < (t.size : Int) := by omega
    have e1 : (s.size : Int) - 1 = (i : Int) := by omega
    have e2 : (t.size : Int) - 1 = (j : Int) := by omega
    have w1 : IntKind.i64.wrap (i : Int) = (i : Int) := by rw [IntKind.wrap_i64]; omega
    have w2 : IntKind.i64.wrap (j : Int) = (j : Int) := by rw [IntKind.wrap_i64]; omega
    have hr := rise_of h3
    rw [lastI_at s i hi hi1, lastI_at t j hj hj1] at hr
    have HR : Hid (riseB (L s) (L t) = riseI ((s[i].toNat : Nat) : Int) ((t[j].toNat : Nat) : Int)) := hr
    clear h4 hi hj hr v1 v2
    go_enter Try.func38, Try.ntmps38
    go_wp2_with (go_at_call 40; refine (vectors2_c s t _ hs1 hs2).mono ?_; rintro e w1 ⟨rfl, rfl⟩)
    go_quiet (fail)
    go_wp2
    all_goals (go_ret; exact ⟨ret_bool (by rw [HR.out]; unfold riseI; simp_all), below_drewN (belA (Below.refl _ _) _) _⟩)
  · have h3' : (vec (L s) && vec (L t)) = false := by simpa using h3
    have HK : Hid _ := rise_no h3'
    clear h3
    go_enter Try.func38, Try.ntmps38
    go_wp2_with (go_at_call 40; refine (vectors2_c s t _ hs1 hs2).mono ?_; rintro e w1 ⟨rfl, rfl⟩; rw [h3'])
    go_ret
    exact ⟨ret_bool HK.out.symm, belA (Below.refl _ _) _⟩

set_option maxHeartbeats 1000000 in
theorem rRise_c (s t : ByteArray) (w : World) (hs1 : s.size ≤ maxLen) (hs2 : t.size ≤ maxLen) : Calls Try.prog 39 #[.string s, .string t] w fun e w' => e = .returned (.bool (riseB (L s) (L t))) ∧ Below w.heap.size w w' := by
  by_cases h1 : vec (L s) = true
  · by_cases h2 : vec (L t) = true
    · have v1 := vec_len h1
      have v2 := vec_len h2
      rw [len_L] at v1 v2
      obtain ⟨i, hi⟩ : ∃ i, s.size = i + 1 := ⟨s.size - 1, by omega⟩
      obtain ⟨j, hj⟩ : ∃ j, t.size = j + 1 := ⟨t.size - 1, by omega⟩
      have hi1 : i < s.size := by omega
      have hj1 : j < t.size := by omega
      have hi2 : (i : Int) < (s.size : Int) := by omega
      have hj2 : (j : Int) < (t.size : Int) := by omega
      have e1 : (s.size : Int) - 1 = (i : Int) := by omega
      have e2 : (t.size : Int) - 1 = (j : Int) := by omega
      have w1 : IntKind.i64.wrap (i : Int) = (i : Int) := by rw [IntKind.wrap_i64]; omega
      have w2 : IntKind.i64.wrap (j : Int) = (j : Int) := by rw [IntKind.wrap_i64]; omega
      have hr := rise_of (show (vec (L s) && vec (L t)) = true by rw [h1, h2]; rfl)
      rw [lastI_at s i hi hi1, lastI_at t j hj hj1] at hr
      have HR : Hid (riseB (L s) (L t) = riseI ((s[i].toNat : Nat) : Int) ((t[j].toNat : Nat) : Int)) := hr
      clear hi hj hr v1 v2
      go_enter Try.func39, Try.ntmps39
      go_wp2_with (go_at_call 17; refine (may_c _ _ (by first | exact hs1 | exact hs2)).mono ?_; rintro e w1 ⟨rfl, rfl⟩)
      go_quiet (fail)
      go_wp2
      all_goals (go_ret; exact ⟨ret_bool (by rw [HR.out]; unfold riseI; simp_all), below_drewN (Below.refl _ _) _⟩)
    · have h2' : vec (L t) = false := by simpa using h2
      have HK : Hid _ := rise_no (show (vec (L s) && vec (L t)) = false by rw [h2']; simp)
      go_enter Try.func39, Try.ntmps39
      go_wp2_with (go_at_call 17; refine (may_c _ _ (by first | exact hs1 | exact hs2)).mono ?_; rintro e w1 ⟨rfl, rfl⟩)
      go_ret
      exact ⟨ret_bool HK.out.symm, Below.refl _ _⟩
  · have h1' : vec (L s) = false := by simpa using h1
    have HK : Hid _ := rise_no (show (vec (L s) && vec (L t)) = false by rw [h1']; simp)
    go_enter Try.func39, Try.ntmps39
    go_wp2_with (go_at_call 17; refine (may_c _ _ (by first | exact hs1 | exact hs2)).mono ?_; rintro e w1 ⟨rfl, rfl⟩)
    go_ret
    exact ⟨ret_bool HK.out.symm, Below.refl _ _⟩

set_option maxHeartbeats 1000000 in
theorem LogicRises_c (s t : ByteArray) (w : World) (hs1 : s.size ≤ maxLen) (hs2 : t.size ≤ maxLen) : Calls Try.prog 10 #[.string s, .string t] w fun e w' => e = .returned (.bool true) ∧ Below w.heap.size w w' := by
  go_enter Try.func10, Try.ntmps10
  go_wp2_with (first | (go_at_call 38; refine (Rise_c s t _ hs1 hs2).mono ?_; rintro e w1 ⟨rfl, hb1⟩) | (go_at_call 39; refine (rRise_c s t _ hs1 hs2).mono ?_; rintro e w2 ⟨rfl, hb2⟩) | (go_at_call 19; refine (awake_c _).mono ?_; rintro e w3 ⟨rfl, hb3⟩))
  go_ret
  exact ⟨rfl, bel (bel hb1 hb2) hb3⟩
end Go.Proofs.Ytdacoincdkighaa
