/- The reference of layer 1: one operator after the other. -/
import Derived.Test.YtdacoincdkighaaWT
import Derived.Test.YtdacoincdkighaaWQ
import Derived.Test.YtdacoincdkighaaMath7
namespace Go.Proofs.Ytdacoincdkighaa
open Go.RowKit Lg
set_option linter.unusedVariables false

set_option maxHeartbeats 1000000 in
theorem rshift15_c (s t : ByteArray) (w : World) (hs0 : 1 ≤ s.size) (hs : s.size ≤ 256) (ht : t.size ≤ maxLen) : Calls Try.prog 42 #[.int .i64 15, .string s, .string t] w fun e w' => e = .returned (.string (S (shiftL 15 (L s) (L t)))) ∧ Below w.heap.size w w' := by
  by_cases h1 : kno (L t) = true
  · obtain ⟨r, hr⟩ : ∃ r, r = rnum (L t) := ⟨_, rfl⟩
    have HR : Hid (r = rnum (L t)) := hr
    have hr1 : -1 ≤ r := by rw [hr]; unfold rnum; split <;> omega
    have hr2 : r ≤ 2147483647 := by rw [hr]; unfold rnum; split <;> omega
    obtain ⟨n, hn⟩ : ∃ n, n = upToN (L t) s.size := ⟨_, rfl⟩
    have hn2 : n ≤ s.size := by rw [hn]; exact upToN_le _ _
    have hu := upTo_rnum (L t) s.size hs
    rw [← hn, ← hr] at hu
    have HN : Hid (n = upToN (L t) s.size) := hn
    have HU0 : shT (L s) ((n : Int)) = shiftL 15 (L s) (L t) := by unfold shiftL; rw [h1, len_L, ← HN.out]; rw [shT_up (L s) n (by rw [len_L]; exact hn2)]; rfl
    clear hn hr
    by_cases c1 : r < 0 ∨ (s.size : Int) < r
    · rw [if_pos c1] at hu
      rw [← hu] at HU0
      have HU : Hid _ := HU0
      clear hu HU0
      by_cases c2 : r < 0
      · clear c1
        go_enter Try.func42, Try.ntmps42
        go_wp2_with (first | (go_at_call 32; refine (rknown_c t _ ht).mono ?_; rintro e w1 ⟨rfl, rfl⟩) | (go_at_call 33; refine (rNumber_c t _ ht h1).mono ?_; rintro e w1 ⟨rfl, rfl⟩; rw [← HR.out]) | (go_at_call 67; refine (rshifted_c s _ _ (by omega) (by omega) (by omega)).mono ?_; rintro e w2 ⟨rfl, hb2⟩))
        go_ret
        exact ⟨ret_str (congrArg S HU.out), by assumption⟩
      · have c4 : (s.size : Int) < r := by omega
        clear c1
        go_enter Try.func42, Try.ntmps42
        go_wp2_with (first | (go_at_call 32; refine (rknown_c t _ ht).mono ?_; rintro e w1 ⟨rfl, rfl⟩) | (go_at_call 33; refine (rNumber_c t _ ht h1).mono ?_; rintro e w1 ⟨rfl, rfl⟩; rw [← HR.out]) | (go_at_call 67; refine (rshifted_c s _ _ (by omega) (by omega) (by omega)).mono ?_; rintro e w2 ⟨rfl, hb2⟩))
        go_ret
        exact ⟨ret_str (congrArg S HU.out), by assumption⟩
    · rw [if_neg c1] at hu
      rw [← hu] at HU0
      have HU : Hid _ := HU0
      clear hu HU0
      have c2 : 0 ≤ r := by omega
      have c3 : r ≤ (s.size : Int) := by omega
      clear c1
      · skip
        go_enter Try.func42, Try.ntmps42
        go_wp2_with (first | (go_at_call 32; refine (rknown_c t _ ht).mono ?_; rintro e w1 ⟨rfl, rfl⟩) | (go_at_call 33; refine (rNumber_c t _ ht h1).mono ?_; rintro e w1 ⟨rfl, rfl⟩; rw [← HR.out]) | (go_at_call 67; refine (rshifted_c s _ _ (by omega) (by omega) (by omega)).mono ?_; rintro e w2 ⟨rfl, hb2⟩))
        go_ret
        exact ⟨ret_str (congrArg S HU.out), by assumption⟩
  · have h1' : kno (L t) = false := by simpa using h1
    go_enter Try.func42, Try.ntmps42
    go_wp2_with (first | (go_at_call 32; refine (rknown_c t _ ht).mono ?_; rintro e w1 ⟨rfl, rfl⟩) | (go_at_call 48; refine (rAll_c 120 s.size _ (by omega)).mono ?_; rintro e w' ⟨rfl, hb⟩))
    go_ret
    exact ⟨ret_str (by unfold shiftL; rw [h1', len_L]; rfl), by assumption⟩

set_option maxHeartbeats 1000000 in
theorem rshift16_c (s t : ByteArray) (w : World) (hs0 : 1 ≤ s.size) (hs : s.size ≤ 256) (ht : t.size ≤ maxLen) : Calls Try.prog 42 #[.int .i64 16, .string s, .string t] w fun e w' => e = .returned (.string (S (shiftL 16 (L s) (L t)))) ∧ Below w.heap.size w w' := by
  by_cases h1 : kno (L t) = true
  · obtain ⟨r, hr⟩ : ∃ r, r = rnum (L t) := ⟨_, rfl⟩
    have HR : Hid (r = rnum (L t)) := hr
    have hr1 : -1 ≤ r := by rw [hr]; unfold rnum; split <;> omega
    have hr2 : r ≤ 2147483647 := by rw [hr]; unfold rnum; split <;> omega
    obtain ⟨n, hn⟩ : ∃ n, n = upToN (L t) s.size := ⟨_, rfl⟩
    have hn2 : n ≤ s.size := by rw [hn]; exact upToN_le _ _
    have hu := upTo_rnum (L t) s.size hs
    rw [← hn, ← hr] at hu
    have HN : Hid (n = upToN (L t) s.size) := hn
    have HU0 : shT (L s) (-((n : Int))) = shiftL 16 (L s) (L t) := by unfold shiftL; rw [h1, len_L, ← HN.out]; rw [shT_down (L s) n (by rw [len_L]; exact hn2)]; rfl
    clear hn hr
    by_cases c1 : r < 0 ∨ (s.size : Int) < r
    · rw [if_pos c1] at hu
      rw [← hu] at HU0
      have HU : Hid _ := HU0
      clear hu HU0
      by_cases c2 : r < 0
      · clear c1
        go_enter Try.func42, Try.ntmps42
        go_wp2_with (first | (go_at_call 32; refine (rknown_c t _ ht).mono ?_; rintro e w1 ⟨rfl, rfl⟩) | (go_at_call 33; refine (rNumber_c t _ ht h1).mono ?_; rintro e w1 ⟨rfl, rfl⟩; rw [← HR.out]) | (go_at_call 67; refine (rshifted_c s _ _ (by omega) (by omega) (by omega)).mono ?_; rintro e w2 ⟨rfl, hb2⟩))
        go_ret
        exact ⟨ret_str (congrArg S HU.out), by assumption⟩
      · have c4 : (s.size : Int) < r := by omega
        clear c1
        go_enter Try.func42, Try.ntmps42
        go_wp2_with (first | (go_at_call 32; refine (rknown_c t _ ht).mono ?_; rintro e w1 ⟨rfl, rfl⟩) | (go_at_call 33; refine (rNumber_c t _ ht h1).mono ?_; rintro e w1 ⟨rfl, rfl⟩; rw [← HR.out]) | (go_at_call 67; refine (rshifted_c s _ _ (by omega) (by omega) (by omega)).mono ?_; rintro e w2 ⟨rfl, hb2⟩))
        go_ret
        exact ⟨ret_str (congrArg S HU.out), by assumption⟩
    · rw [if_neg c1] at hu
      rw [← hu] at HU0
      have HU : Hid _ := HU0
      clear hu HU0
      have c2 : 0 ≤ r := by omega
      have c3 : r ≤ (s.size : Int) := by omega
      clear c1
      · skip
        go_enter Try.func42, Try.ntmps42
        go_wp2_with (first | (go_at_call 32; refine (rknown_c t _ ht).mono ?_; rintro e w1 ⟨rfl, rfl⟩) | (go_at_call 33; refine (rNumber_c t _ ht h1).mono ?_; rintro e w1 ⟨rfl, rfl⟩; rw [← HR.out]) | (go_at_call 67; refine (rshifted_c s _ _ (by omega) (by omega) (by omega)).mono ?_; rintro e w2 ⟨rfl, hb2⟩))
        go_ret
        exact ⟨ret_str (congrArg S HU.out), by assumption⟩
  · have h1' : kno (L t) = false := by simpa using h1
    go_enter Try.func42, Try.ntmps42
    go_wp2_with (first | (go_at_call 32; refine (rknown_c t _ ht).mono ?_; rintro e w1 ⟨rfl, rfl⟩) | (go_at_call 48; refine (rAll_c 120 s.size _ (by omega)).mono ?_; rintro e w' ⟨rfl, hb⟩))
    go_ret
    exact ⟨ret_str (by unfold shiftL; rw [h1', len_L]; rfl), by assumption⟩

set_option maxHeartbeats 1000000 in
theorem rcompared_c (op : Int) (s t : ByteArray) (w : World) (hs1 : s.size ≤ maxLen) (hs2 : t.size ≤ maxLen) : Calls Try.prog 46 #[.int .i64 op, .string s, .string t] w fun e w' => e = .returned (.string (S (cmpL op (L s) (L t)))) ∧ w' = w := by
  by_cases h1 : kno (L s) = true
  · by_cases h2 : kno (L t) = true
    · have HK : Hid (cmpL op (L s) (L t) = bitL (holdL op (L s) (L t))) := show _ = _ from by unfold cmpL; rw [h1, h2]; rfl
      go_enter Try.func46, Try.ntmps46
      go_wp2_with (first | (go_at_call 32; refine (rknown_c _ _ (by first | exact hs1 | exact hs2)).mono ?_; rintro e w1 ⟨rfl, rfl⟩) | (go_at_call 68; refine (rtruth_c _ _).mono ?_; rintro e w1 ⟨rfl, rfl⟩))
      all_goals (go_ret; exact ⟨ret_str (by rw [HK.out]; simp_all [holdL, toL]), rfl⟩)
    · have h2' : kno (L t) = false := by simpa using h2
      go_enter Try.func46, Try.ntmps46
      go_wp2_with (first | (go_at_call 32; refine (rknown_c _ _ (by first | exact hs1 | exact hs2)).mono ?_; rintro e w1 ⟨rfl, rfl⟩))
      go_ret
      exact ⟨ret_str (by unfold cmpL; rw [h1, h2']; rfl), rfl⟩
  · have h1' : kno (L s) = false := by simpa using h1
    go_enter Try.func46, Try.ntmps46
    go_wp2_with (first | (go_at_call 32; refine (rknown_c _ _ (by first | exact hs1 | exact hs2)).mono ?_; rintro e w1 ⟨rfl, rfl⟩))
    go_ret
    exact ⟨ret_str (by unfold cmpL; rw [h1']; rfl), rfl⟩
end Go.Proofs.Ytdacoincdkighaa
