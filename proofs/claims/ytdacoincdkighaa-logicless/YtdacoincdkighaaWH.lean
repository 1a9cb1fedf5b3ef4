/- Layer 1: shifts. -/
import Derived.Test.YtdacoincdkighaaWF
namespace Go.Proofs.Ytdacoincdkighaa
open Go.RowKit Lg
set_option linter.unusedVariables false

set_option maxHeartbeats 1000000 in
theorem shifted_c (op : Int) (s t : ByteArray) (w : World) (hs0 : 1 ≤ s.size) (hs : s.size ≤ 1000) (ht : t.size ≤ maxLen) : Calls Try.prog 64 #[.int .i64 op, .string s, .string t] w fun e w' => e = .returned (.string (S (shiftL op (L s) (L t)))) ∧ Below w.heap.size w w' := by
  by_cases h1 : kno (L t) = true
  · obtain ⟨n, hn⟩ : ∃ n, n = upToN (L t) s.size := ⟨_, rfl⟩
    have hn2 : n ≤ s.size := by rw [hn]; exact upToN_le _ _
    have HN : Hid (n = upToN (L t) s.size) := hn
    clear hn
    have hz : (S (rep n 48)).size = n := by rw [size_S, len_rep]
    by_cases h2 : op = 15
    · subst h2
      go_enter Try.func64, Try.ntmps64
      go_wp2_with (first | (go_at_call 61; refine (known_c _ _ ht).mono ?_; rintro e w' ⟨rfl, rfl⟩) | (go_at_call 62; refine (upTo_c t s.size _ ht hs0 (by omega)).mono ?_; rintro e w' ⟨rfl, rfl⟩; rw [← HN.out]))
      go_region_with (go_at_call 71; refine (same_c 48 n _ (by omega)).mono ?_; rintro e w' ⟨rfl, hb⟩)
      all_goals go_wp2
      all_goals (go_ret; exact ⟨ret_str ((shl_str s n hn2).trans (by unfold shiftL; rw [h1, len_L, ← HN.out]; rfl)), ((Below.refl _ _).drew).trans hb⟩)
    · have h2' : (op == 15) = false := by simpa using h2
      obtain ⟨m, hm⟩ : ∃ m, s.size = n + m := ⟨s.size - n, by omega⟩
      have e1 : (s.size : Int) - (n : Int) = (m : Int) := by omega
      have hm2 : m ≤ s.size := by omega
      have hsl : ∀ w, (Instr.slice 9 (.string s) none (some (.int .i64 (m : Int))) none).run Try.prog w = .ok (.string (s.extract 0 m)) w := by
        intro w; rw [run_slice_string_to_if _ _ _ _ _ Try.underlying9, if_pos ⟨by omega, by omega⟩]; rfl
      have HM : Hid (s.size = n + m) := hm
      have hwr : IntKind.i64.wrap (m : Int) = (m : Int) := by rw [IntKind.wrap_i64]; omega
      clear hm
      go_enter Try.func64, Try.ntmps64
      go_wp2_with (first | (go_at_call 61; refine (known_c _ _ ht).mono ?_; rintro e w' ⟨rfl, rfl⟩) | (go_at_call 62; refine (upTo_c t s.size _ ht hs0 (by omega)).mono ?_; rintro e w' ⟨rfl, rfl⟩; rw [← HN.out]))
      go_region_with (go_at_call 71; refine (same_c 48 n _ (by omega)).mono ?_; rintro e w' ⟨rfl, hb⟩)
      all_goals go_wp2
      all_goals (go_ret; exact ⟨ret_str ((congrArg (fun x => S (rep n 48) ++ s.extract 0 x) (show m = s.size - n by have := HM.out; omega)).trans ((shr_str s n hn2).trans (by unfold shiftL; rw [h1, len_L, ← HN.out, if_neg h2]; rfl))), ((Below.refl _ _).drew).trans hb⟩)
  · have h1' : kno (L t) = false := by simpa using h1
    go_enter Try.func64, Try.ntmps64
    go_wp2_with (first | (go_at_call 61; refine (known_c _ _ ht).mono ?_; rintro e w' ⟨rfl, rfl⟩) | (go_at_call 71; refine (same_c 120 s.size _ (by omega)).mono ?_; rintro e w' ⟨rfl, hb⟩))
    go_ret
    exact ⟨ret_str (by unfold shiftL; rw [h1', len_L]; rfl), by assumption⟩

end Go.Proofs.Ytdacoincdkighaa
