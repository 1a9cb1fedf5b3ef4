/- Layer 1: the operators of one width. -/
import Derived.Test.YtdacoincdkighaaWE
import Derived.Test.YtdacoincdkighaaMath3
namespace Go.Proofs.Ytdacoincdkighaa
open Go.RowKit Lg
set_option linter.unusedVariables false

theorem bel {w a b : World} (h : Below w.heap.size w a) (k : Below a.heap.size a b) : Below w.heap.size w b := h.trans (k.mono h.size)
theorem belA {w a : World} (h : Below w.heap.size w a) (o : Obj) : Below w.heap.size w (a.alloc o) := h.alloc h.size o
theorem belD {w : World} : Below w.heap.size w w.drew := (Below.refl _ _).drew

set_option maxHeartbeats 400000 in
theorem total_c (s t : ByteArray) (w : World) (hst : s.size = t.size) (hs : s.size ≤ 1000) : Calls Try.prog 75 #[.string s, .string t] w fun e w' => e = .returned (.string (S (totL (L s) (L t)))) ∧ Below w.heap.size w w' := by
  have hs1 : s.size ≤ maxLen := by unfold maxLen; omega
  have hs2 : t.size ≤ maxLen := by unfold maxLen; omega
  have HST : Hid (s.size = t.size) := hst
  clear hst
  by_cases h1 : kno (L s) = true
  · by_cases h2 : kno (L t) = true
    · go_enter Try.func75, Try.ntmps75
      go_wp2_with (first | (go_at_call 61; refine (known_c _ _ (by first | exact hs1 | exact hs2)).mono ?_; rintro e w' ⟨rfl, rfl⟩) | (go_at_call 77; refine (sum_c s t 0 _ HST.out hs (by omega)).mono ?_; rintro e w' ⟨rfl, hb⟩))
      go_ret
      exact ⟨ret_str (by unfold totL; rw [h1, h2]; rfl), by assumption⟩
    · have h2' : kno (L t) = false := by simpa using h2
      go_enter Try.func75, Try.ntmps75
      go_wp2_with (first | (go_at_call 61; refine (known_c _ _ (by first | exact hs1 | exact hs2)).mono ?_; rintro e w' ⟨rfl, rfl⟩) | (go_at_call 71; refine (same_c 120 s.size _ (by omega)).mono ?_; rintro e w' ⟨rfl, hb⟩))
      go_ret
      exact ⟨ret_str (by unfold totL; rw [h1, h2', len_L]; rfl), by assumption⟩
  · have h1' : kno (L s) = false := by simpa using h1
    go_enter Try.func75, Try.ntmps75
    go_wp2_with (first | (go_at_call 61; refine (known_c _ _ (by first | exact hs1 | exact hs2)).mono ?_; rintro e w' ⟨rfl, rfl⟩) | (go_at_call 71; refine (same_c 120 s.size _ (by omega)).mono ?_; rintro e w' ⟨rfl, hb⟩))
    go_ret
    exact ⟨ret_str (by unfold totL; rw [h1', len_L]; rfl), by assumption⟩

set_option maxHeartbeats 400000 in
theorem difference_c (s t : ByteArray) (w : World) (hst : s.size = t.size) (hs : s.size ≤ 1000) : Calls Try.prog 70 #[.string s, .string t] w fun e w' => e = .returned (.string (S (difL (L s) (L t)))) ∧ Below w.heap.size w w' := by
  have hs1 : s.size ≤ maxLen := by unfold maxLen; omega
  have hs2 : t.size ≤ maxLen := by unfold maxLen; omega
  have hs3 : t.size ≤ 1000 := by omega
  have HST : Hid (s.size = t.size) := hst
  clear hst
  by_cases h1 : kno (L s) = true
  · by_cases h2 : kno (L t) = true
    · go_enter Try.func70, Try.ntmps70
      go_wp2_with (go_at_call 61; refine (known_c _ _ (by first | exact hs1 | exact hs2)).mono ?_; rintro e w' ⟨rfl, rfl⟩)
      go_wp2_with fail
      refine (turned_c t _ hs3).mono ?_
      rintro e w1 ⟨rfl, hb1⟩
      go_wp2_with fail
      refine (sum_c s _ 1 _ (by rw [size_S, len_turnL, len_L, HST.out]) hs (by omega)).mono ?_
      rintro e w2 ⟨rfl, hb2⟩
      go_wp2
      go_ret
      exact ⟨ret_str (by unfold difL; rw [h1, h2, L_S]; rfl), hb1.trans (hb2.mono hb1.size)⟩
    · have h2' : kno (L t) = false := by simpa using h2
      go_enter Try.func70, Try.ntmps70
      go_wp2_with (first | (go_at_call 61; refine (known_c _ _ (by first | exact hs1 | exact hs2)).mono ?_; rintro e w' ⟨rfl, rfl⟩) | (go_at_call 71; refine (same_c 120 s.size _ (by omega)).mono ?_; rintro e w' ⟨rfl, hb⟩))
      go_ret
      exact ⟨ret_str (by unfold difL; rw [h1, h2', len_L]; rfl), by assumption⟩
  · have h1' : kno (L s) = false := by simpa using h1
    go_enter Try.func70, Try.ntmps70
    go_wp2_with (first | (go_at_call 61; refine (known_c _ _ (by first | exact hs1 | exact hs2)).mono ?_; rintro e w' ⟨rfl, rfl⟩) | (go_at_call 71; refine (same_c 120 s.size _ (by omega)).mono ?_; rintro e w' ⟨rfl, hb⟩))
    go_ret
    exact ⟨ret_str (by unfold difL; rw [h1', len_L]; rfl), by assumption⟩

theorem toL (s : ByteArray) : s.toList = L s := Go.ByteArray.toList_eq s
set_option maxHeartbeats 400000 in
theorem holds_c (op : Int) (s t : ByteArray) (w : World) : Calls Try.prog 79 #[.int .i64 op, .string s, .string t] w fun e w' => e = .returned (.bool (holdL op (L s) (L t))) ∧ w' = w := by
  go_enter Try.func79, Try.ntmps79
  go_wp2
  all_goals (go_ret; exact ⟨ret_bool (by simp_all [holdL, toL]), rfl⟩)

theorem ret_s {a b : List UInt8} {s : ByteArray} (h : a = b) (hs : s = S a) : Ending.returned (.string s) = .returned (.string (S b)) := by rw [hs, h]
set_option maxHeartbeats 400000 in
theorem compared_c (op : Int) (s t : ByteArray) (w : World) (hs1 : s.size ≤ maxLen) (hs2 : t.size ≤ maxLen) : Calls Try.prog 76 #[.int .i64 op, .string s, .string t] w fun e w' => e = .returned (.string (S (cmpL op (L s) (L t)))) ∧ w' = w := by
  by_cases h1 : kno (L s) = true
  · by_cases h2 : kno (L t) = true
    · by_cases h3 : holdL op (L s) (L t) = true
      · go_enter Try.func76, Try.ntmps76
        go_wp2_with (first | (go_at_call 61; refine (known_c _ _ (by first | exact hs1 | exact hs2)).mono ?_; rintro e w' ⟨rfl, rfl⟩) | (go_at_call 79; refine (holds_c _ _ _ _).mono ?_; rintro e w' ⟨rfl, rfl⟩))
        go_ret
        exact ⟨ret_str (by unfold cmpL; rw [h1, h2, h3]; rfl), rfl⟩
      · have h3' : holdL op (L s) (L t) = false := by simpa using h3
        go_enter Try.func76, Try.ntmps76
        go_wp2_with (first | (go_at_call 61; refine (known_c _ _ (by first | exact hs1 | exact hs2)).mono ?_; rintro e w' ⟨rfl, rfl⟩) | (go_at_call 79; refine (holds_c _ _ _ _).mono ?_; rintro e w' ⟨rfl, rfl⟩))
        go_ret
        exact ⟨ret_str (by unfold cmpL; rw [h1, h2, h3']; rfl), rfl⟩
    · have h2' : kno (L t) = false := by simpa using h2
      go_enter Try.func76, Try.ntmps76
      go_wp2_with (first | (go_at_call 61; refine (known_c _ _ (by first | exact hs1 | exact hs2)).mono ?_; rintro e w' ⟨rfl, rfl⟩))
      go_ret
      exact ⟨ret_str (by unfold cmpL; rw [h1, h2']; rfl), rfl⟩
  · have h1' : kno (L s) = false := by simpa using h1
    go_enter Try.func76, Try.ntmps76
    go_wp2_with (first | (go_at_call 61; refine (known_c _ _ (by first | exact hs1 | exact hs2)).mono ?_; rintro e w' ⟨rfl, rfl⟩))
    go_ret
    exact ⟨ret_str (by unfold cmpL; rw [h1']; rfl), rfl⟩

theorem upToN_le (l : List UInt8) (m : Nat) : upToN l m ≤ m := by unfold upToN; split <;> omega
theorem shl_str (s : ByteArray) (n : Nat) (h : n ≤ s.size) : s.extract n s.size ++ S (rep n 48) = S (shlL (L s) n) := by
  apply L_inj; rw [L_append, L_extract, L_S, L_S]; unfold shlL; rw [List.take_of_length_le (by simp [len_L])]
theorem shr_str (s : ByteArray) (n : Nat) (h : n ≤ s.size) : S (rep n 48) ++ s.extract 0 (s.size - n) = S (shrL (L s) n) := by
  apply L_inj; rw [L_append, L_extract, L_S, L_S]; unfold shrL; rw [len_L]; simp

end Go.Proofs.Ytdacoincdkighaa
