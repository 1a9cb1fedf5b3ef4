/- Layer 1: parts, bits, numbers. -/
import Derived.Test.YtdacoincdkighaaWL
import Derived.Test.YtdacoincdkighaaMath4
namespace Go.Proofs.Ytdacoincdkighaa
open Go.RowKit Lg
set_option linter.unusedVariables false

theorem tupI {x y : Int} {a b : Int} (h : y = x ∧ b = a) : Ending.returned (.tuple #[.int .i64 x, .int .i64 a]) = .returned (.tuple #[.int .i64 y, .int .i64 b]) := by rw [h.1, h.2]
set_option maxHeartbeats 1000000 in
theorem Number_c (s : ByteArray) (w : World) (hs1 : s.size ≤ maxLen) : Calls Try.prog 27 #[.string s] w fun e w' => e = .returned (.tuple #[.int .i64 (numA (L s)), .int .i64 (numE (L s))]) ∧ Below w.heap.size w w' := by
  by_cases h1 : vec (L s) = true
  · by_cases h2 : kno (L s) = true
    · obtain ⟨m, hm⟩ : ∃ m, m = upToN (L s) 2147483648 := ⟨_, rfl⟩
      by_cases h3 : num (L s) ≤ 2147483647
      · have HK : Hid _ := num_ok h1 h2 h3
        have hm2 : m = num (L s) := by rw [hm]; unfold upToN; rw [if_neg (by omega)]
        have hm3 : m ≤ 2147483647 := by omega
        have HM : Hid (m = upToN (L s) 2147483648) := hm
        have HN : Hid (m = num (L s)) := hm2
        clear hm hm2
        go_enter Try.func27, Try.ntmps27
        go_wp2_with (first | (go_at_call 40; refine (vectors1_c s _ hs1).mono ?_; rintro e w1 ⟨rfl, rfl⟩) | (go_at_call 61; refine (known_c s _ hs1).mono ?_; rintro e w1 ⟨rfl, rfl⟩) | (go_at_call 62; refine (upTo_c s 2147483648 _ hs1 (by omega) (by omega)).mono ?_; rintro e w1 ⟨rfl, rfl⟩; rw [← HM.out]))
        go_ret2
        exact ⟨tupI ⟨by rw [HK.out.1, HN.out], HK.out.2⟩, belA (Below.refl _ _) _⟩
      · have HK : Hid _ := num_big h1 h2 h3
        have hm2 : m = 2147483648 := by rw [hm]; unfold upToN; rw [if_pos (by omega)]
        have hm3 : 2147483648 ≤ m := by omega
        have HM : Hid (m = upToN (L s) 2147483648) := hm
        clear hm hm2
        go_enter Try.func27, Try.ntmps27
        go_wp2_with (first | (go_at_call 40; refine (vectors1_c s _ hs1).mono ?_; rintro e w1 ⟨rfl, rfl⟩) | (go_at_call 61; refine (known_c s _ hs1).mono ?_; rintro e w1 ⟨rfl, rfl⟩) | (go_at_call 62; refine (upTo_c s 2147483648 _ hs1 (by omega) (by omega)).mono ?_; rintro e w1 ⟨rfl, rfl⟩; rw [← HM.out]))
        go_ret2
        exact ⟨tupI HK.out, belA (Below.refl _ _) _⟩
    · have h2' : kno (L s) = false := by simpa using h2
      have HK : Hid _ := num_unk h1 h2'
      go_enter Try.func27, Try.ntmps27
      go_wp2_with (first | (go_at_call 40; refine (vectors1_c s _ hs1).mono ?_; rintro e w1 ⟨rfl, rfl⟩) | (go_at_call 61; refine (known_c s _ hs1).mono ?_; rintro e w1 ⟨rfl, rfl⟩))
      go_ret2
      exact ⟨tupI HK.out, belA (Below.refl _ _) _⟩
  · have h1' : vec (L s) = false := by simpa using h1
    have HK : Hid _ := num_bad h1'
    go_enter Try.func27, Try.ntmps27
    go_wp2_with (first | (go_at_call 40; refine (vectors1_c s _ hs1).mono ?_; rintro e w1 ⟨rfl, rfl⟩))
    go_ret2
    exact ⟨tupI HK.out, belA (Below.refl _ _) _⟩

theorem part_L (s : ByteArray) (hi lo : Nat) (h1 : lo ≤ hi) (h2 : hi < s.size) : s.extract (s.size - 1 - hi) (s.size - lo) = S (parL (L s) hi lo) := by
  apply L_inj; rw [L_extract, L_S]; unfold parL; rw [len_L]; congr 1; omega
set_option maxHeartbeats 1000000 in
theorem Part_c (s : ByteArray) (hi lo : Int) (w : World) (hs1 : s.size ≤ maxLen) : Calls Try.prog 25 #[.string s, .int .i64 hi, .int .i64 lo] w fun e w' => e = .returned (.tuple #[.string (S (parA (L s) hi lo)), .int .i64 (parE (L s) hi lo)]) ∧ Below w.heap.size w w' := by
  by_cases h1 : vec (L s) = true
  · by_cases h2 : lo < 0 ∨ hi < lo ∨ (s.size : Int) ≤ hi
    · have HK : Hid (parA (L s) hi lo = [] ∧ parE (L s) hi lo = 1) := by unfold parA parE; rw [h1, len_L, if_pos h2, if_pos h2]; exact ⟨rfl, rfl⟩
      by_cases c1 : lo < 0
      · go_enter Try.func25, Try.ntmps25
        go_wp2_with (first | (go_at_call 40; refine (vectors1_c s _ hs1).mono ?_; rintro e w1 ⟨rfl, rfl⟩))
        go_ret2
        exact ⟨tup2 HK.out, belA (Below.refl _ _) _⟩
      by_cases c2 : hi < lo
      · go_enter Try.func25, Try.ntmps25
        go_wp2_with (first | (go_at_call 40; refine (vectors1_c s _ hs1).mono ?_; rintro e w1 ⟨rfl, rfl⟩))
        go_ret2
        exact ⟨tup2 HK.out, belA (Below.refl _ _) _⟩
      have c3 : (s.size : Int) ≤ hi := by omega
      clear h2
      go_enter Try.func25, Try.ntmps25
      go_wp2_with (first | (go_at_call 40; refine (vectors1_c s _ hs1).mono ?_; rintro e w1 ⟨rfl, rfl⟩))
      go_ret2
      exact ⟨tup2 HK.out, belA (Below.refl _ _) _⟩
    · obtain ⟨a, rfl⟩ := Int.eq_ofNat_of_zero_le (show 0 ≤ lo by omega)
      obtain ⟨b, rfl⟩ := Int.eq_ofNat_of_zero_le (show 0 ≤ hi by omega)
      have HK : Hid (parA (L s) b a = parL (L s) b a ∧ parE (L s) b a = 0) := by unfold parA parE; rw [h1, len_L, if_neg h2, if_neg h2]; exact ⟨rfl, rfl⟩
      have c1 : a ≤ b := by omega
      have c2 : b < s.size := by omega
      clear h2
      go_enter Try.func25, Try.ntmps25
      go_wp2_with (first | (go_at_call 40; refine (vectors1_c s _ hs1).mono ?_; rintro e w1 ⟨rfl, rfl⟩) | (go_at_call 60; refine (part_c s b a _ hs1 c1 c2).mono ?_; rintro e w1 ⟨rfl, rfl⟩; rw [part_L s b a c1 c2]))
      go_ret2
      exact ⟨tup2 HK.out, belA (Below.refl _ _) _⟩
  · have h1' : vec (L s) = false := by simpa using h1
    have HK : Hid (parA (L s) hi lo = [] ∧ parE (L s) hi lo = 10) := by unfold parA parE; rw [h1']; exact ⟨rfl, rfl⟩
    go_enter Try.func25, Try.ntmps25
    go_wp2_with (first | (go_at_call 40; refine (vectors1_c s _ hs1).mono ?_; rintro e w1 ⟨rfl, rfl⟩))
    go_ret2
    exact ⟨tup2 HK.out, belA (Below.refl _ _) _⟩

theorem bit_L (s : ByteArray) (n : Nat) (h : n < s.size) : s.extract (s.size - 1 - n) (s.size - n) = S [bitAt (L s) n] := by
  apply L_inj; unfold bitAt; rw [L_extract, L_S, len_L, show s.size - n - (s.size - 1 - n) = 1 by omega]
  have hl : s.size - 1 - n < (L s).length := by rw [len_L]; omega
  rw [List.drop_eq_getElem_cons hl, List.getD_eq_getElem?_getD, List.getElem?_eq_getElem hl]; rfl
set_option maxHeartbeats 1000000 in
theorem Bit_c (s t : ByteArray) (w : World) (hs1 : s.size ≤ maxLen) (hs2 : t.size ≤ maxLen) : Calls Try.prog 26 #[.string s, .string t] w fun e w' => e = .returned (.tuple #[.string (S (btA (L s) (L t))), .int .i64 (btE (L s) (L t))]) ∧ Below w.heap.size w w' := by
  by_cases h1 : (vec (L s) && vec (L t)) = true
  · have HV : Hid ((vec (L s) && vec (L t)) = true) := h1
    have HK : Hid (btA (L s) (L t) = btL (L s) (L t) ∧ btE (L s) (L t) = 0) := by unfold btA btE; rw [h1]; exact ⟨rfl, rfl⟩
    have h4 := (Bool.and_eq_true _ _).mp h1
    have v1 := vec_len h4.1
    rw [len_L] at v1
    obtain ⟨v1a, v1b⟩ := v1
    by_cases h2 : kno (L t) = true
    · obtain ⟨n, hn⟩ : ∃ n, n = upToN (L t) s.size := ⟨_, rfl⟩
      by_cases h3 : num (L t) < s.size
      · have hn2 : n = num (L t) := by rw [hn]; unfold upToN; rw [if_neg (by omega)]
        have hb : ((n : Int) == (s.size : Int)) = false := by simp; omega
        have hn3 : n < s.size := by omega
        have HB : Hid (btL (L s) (L t) = [bitAt (L s) n]) := show _ = _ from by unfold btL; rw [if_pos h2, len_L, if_pos h3, hn2]
        have HN : Hid (n = upToN (L t) s.size) := hn
        clear hn hn2 h4
        go_enter Try.func26, Try.ntmps26
        go_wp2_with (first | (go_at_call 40; refine (vectors2_c s t _ hs1 hs2).mono ?_; rintro e w1 ⟨rfl, rfl⟩; rw [HV.out]) | (go_at_call 61; refine (known_c t _ hs2).mono ?_; rintro e w1 ⟨rfl, rfl⟩) | (go_at_call 62; refine (upTo_c t s.size _ hs2 (by omega) (by omega)).mono ?_; rintro e w1 ⟨rfl, rfl⟩; rw [← HN.out]) | (go_at_call 60; refine (part_c s n n _ hs1 (by omega) hn3).mono ?_; rintro e w1 ⟨rfl, rfl⟩; rw [bit_L s n hn3]))
        go_ret2
        exact ⟨tup2 ⟨by rw [HK.out.1, HB.out], HK.out.2⟩, belA (Below.refl _ _) _⟩
      · have hn2 : n = s.size := by rw [hn]; unfold upToN; rw [if_pos (by omega)]
        have hb : ((n : Int) == (s.size : Int)) = true := by simp; omega
        have HB : Hid (btL (L s) (L t) = [120]) := show _ = _ from by unfold btL; rw [if_pos h2, len_L, if_neg h3]
        have HN : Hid (n = upToN (L t) s.size) := hn
        clear hn hn2 h4
        go_enter Try.func26, Try.ntmps26
        go_wp2_with (first | (go_at_call 40; refine (vectors2_c s t _ hs1 hs2).mono ?_; rintro e w1 ⟨rfl, rfl⟩; rw [HV.out]) | (go_at_call 61; refine (known_c t _ hs2).mono ?_; rintro e w1 ⟨rfl, rfl⟩) | (go_at_call 62; refine (upTo_c t s.size _ hs2 (by omega) (by omega)).mono ?_; rintro e w1 ⟨rfl, rfl⟩; rw [← HN.out]))
        go_ret2
        exact ⟨tup2 ⟨by rw [HK.out.1, HB.out], HK.out.2⟩, belA (Below.refl _ _) _⟩
    · have h2' : kno (L t) = false := by simpa using h2
      have HB : Hid (btL (L s) (L t) = [120]) := show _ = _ from by unfold btL; rw [if_neg h2]
      clear h4
      go_enter Try.func26, Try.ntmps26
      go_wp2_with (first | (go_at_call 40; refine (vectors2_c s t _ hs1 hs2).mono ?_; rintro e w1 ⟨rfl, rfl⟩; rw [HV.out]) | (go_at_call 61; refine (known_c t _ hs2).mono ?_; rintro e w1 ⟨rfl, rfl⟩))
      go_ret2
      exact ⟨tup2 ⟨by rw [HK.out.1, HB.out], HK.out.2⟩, belA (Below.refl _ _) _⟩
  · have h1' : (vec (L s) && vec (L t)) = false := by simpa using h1
    have HK : Hid (btA (L s) (L t) = [] ∧ btE (L s) (L t) = 10) := by unfold btA btE; rw [h1']; exact ⟨rfl, rfl⟩
    clear h1
    go_enter Try.func26, Try.ntmps26
    go_wp2_with (go_at_call 40; refine (vectors2_c s t _ hs1 hs2).mono ?_; rintro e w1 ⟨rfl, rfl⟩; rw [h1'])
    go_ret2
    exact ⟨tup2 HK.out, belA (Below.refl _ _) _⟩
end Go.Proofs.Ytdacoincdkighaa
