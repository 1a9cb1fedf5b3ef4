/- Layer 1: parts, bits, numbers. -/
import Derived.Test.YtbpjgfemopakcaaWL
import Derived.Test.YtbpjgfemopakcaaGM
namespace Go.Proofs.Ytbpjgfemopakcaa
open Go.RowKit Lg
set_option linter.unusedVariables false

theorem tupI {x y : Int} {a b : Int} (h : y = x ∧ b = a) : Ending.returned (.tuple #[.int .i64 x, .int .i64 a]) = .returned (.tuple #[.int .i64 y, .int .i64 b]) := by rw [h.1, h.2]
set_option maxHeartbeats 1000000 in
theorem Number_c (s : ByteArray) (w : World) (hs1 : s.size ≤ maxLen) : Calls Try.prog 37 #[.string s] w fun e w' => e = .returned (.tuple #[.int .i64 (numA (L s)), .int .i64 (numE (L s))]) ∧ Below w.heap.size w w' := by
  by_cases h1 : vec (L s) = true
  · by_cases h2 : kno (L s) = true
    · obtain ⟨m, hm⟩ : ∃ m, m = upToN (L s) 2147483648 := ⟨_, rfl⟩
      by_cases h3 : num (L s) ≤ 2147483647
      · have HK : Hid _ := num_ok h1 h2 h3
        have hm2 : m = num (L s) := by rw [hm]; unfold upToN; rw [if_neg (by omega)]
        have hm3 : m ≤ 2147483647 := by omega
        have HM : Hid (m = upToN (L s) 2147483648) := hm
        have HN : Hid (m = num (L s)) := hm2
        clear hm hm2
        go_enter Try.func37, Try.ntmps37
        go_wp2_with (first | (go_at_call 40; refine (vectors1_c s _ hs1).mono ?_; rintro e w1 ⟨rfl, rfl⟩) | (go_at_call 41; refine (known_c s _ hs1).mono ?_; rintro e w1 ⟨rfl, rfl⟩) | (go_at_call 42; refine (upTo_c s 2147483648 _ hs1 (by omega) (by omega)).mono ?_; rintro e w1 ⟨rfl, rfl⟩; rw [← HM.out]))
        go_ret2
        exact ⟨tupI ⟨by rw [HK.out.1, HN.out], HK.out.2⟩, belA (Below.refl _ _) _⟩
      · have HK : Hid _ := num_big h1 h2 h3
        have hm2 : m = 2147483648 := by rw [hm]; unfold upToN; rw [if_pos (by omega)]
        have hm3 : 2147483648 ≤ m := by omega
        have HM : Hid (m = upToN (L s) 2147483648) := hm
        clear hm hm2
        go_enter Try.func37, Try.ntmps37
        go_wp2_with (first | (go_at_call 40; refine (vectors1_c s _ hs1).mono ?_; rintro e w1 ⟨rfl, rfl⟩) | (go_at_call 41; refine (known_c s _ hs1).mono ?_; rintro e w1 ⟨rfl, rfl⟩) | (go_at_call 42; refine (upTo_c s 2147483648 _ hs1 (by omega) (by omega)).mono ?_; rintro e w1 ⟨rfl, rfl⟩; rw [← HM.out]))
        go_ret2
        exact ⟨tupI HK.out, belA (Below.refl _ _) _⟩
    · have h2' : kno (L s) = false := by simpa using h2
      have HK : Hid _ := num_unk h1 h2'
      go_enter Try.func37, Try.ntmps37
      go_wp2_with (first | (go_at_call 40; refine (vectors1_c s _ hs1).mono ?_; rintro e w1 ⟨rfl, rfl⟩) | (go_at_call 41; refine (known_c s _ hs1).mono ?_; rintro e w1 ⟨rfl, rfl⟩))
      go_ret2
      exact ⟨tupI HK.out, belA (Below.refl _ _) _⟩
  · have h1' : vec (L s) = false := by simpa using h1
    have HK : Hid _ := num_bad h1'
    go_enter Try.func37, Try.ntmps37
    go_wp2_with (first | (go_at_call 40; refine (vectors1_c s _ hs1).mono ?_; rintro e w1 ⟨rfl, rfl⟩))
    go_ret2
    exact ⟨tupI HK.out, belA (Below.refl _ _) _⟩

theorem part_L (s : ByteArray) (hi lo : Nat) (h1 : lo ≤ hi) (h2 : hi < s.size) : s.extract (s.size - 1 - hi) (s.size - lo) = S (parL (L s) hi lo) := by
  apply L_inj; rw [L_extract, L_S]; unfold parL; rw [len_L]; congr 1; omega
theorem bit_L (s : ByteArray) (n : Nat) (h : n < s.size) : s.extract (s.size - 1 - n) (s.size - n) = S [bitAt (L s) n] := by
  apply L_inj; unfold bitAt; rw [L_extract, L_S, len_L, show s.size - n - (s.size - 1 - n) = 1 by omega]
  have hl : s.size - 1 - n < (L s).length := by rw [len_L]; omega
  rw [List.drop_eq_getElem_cons hl, List.getD_eq_getElem?_getD, List.getElem?_eq_getElem hl]; rfl
end Go.Proofs.Ytbpjgfemopakcaa
