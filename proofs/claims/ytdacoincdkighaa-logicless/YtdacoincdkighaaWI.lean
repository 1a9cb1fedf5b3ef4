/- Layer 1: binary and unary operators. -/
import Derived.Test.YtdacoincdkighaaWG
import Derived.Test.YtdacoincdkighaaWH
namespace Go.Proofs.Ytdacoincdkighaa
open Go.RowKit Lg
set_option linter.unusedVariables false

theorem ne_b {a b : Int} (h : ¬ a = b) : (a == b) = false := by simpa using h

set_option maxHeartbeats 1000000 in
theorem ofOneWidth_c (op : Int) (s t : ByteArray) (w : World) (hst : s.size = t.size) (hs : s.size ≤ 1000) : Calls Try.prog 66 #[.int .i64 op, .string s, .string t] w fun e w' => e = .returned (.string (S (oneW op (L s) (L t)))) ∧ Below w.heap.size w w' := by
  have hs1 : s.size ≤ maxLen := by unfold maxLen; omega
  have hs2 : t.size ≤ maxLen := by unfold maxLen; omega
  have HST : Hid (s.size = t.size) := hst
  clear hst
  by_cases h13 : op = 13
  · subst h13
    go_enter Try.func66, Try.ntmps66
    go_wp2_with (go_at_call 75; refine (total_c s t _ HST.out hs).mono ?_; rintro e w1 ⟨rfl, hb1⟩)
    go_ret
    exact ⟨ret_str (by unfold oneW; simp), hb1⟩
  by_cases h14 : op = 14
  · subst h14
    go_enter Try.func66, Try.ntmps66
    go_wp2_with (go_at_call 70; refine (difference_c s t _ HST.out hs).mono ?_; rintro e w1 ⟨rfl, hb1⟩)
    go_ret
    exact ⟨ret_str (by unfold oneW; simp), hb1⟩
  by_cases h23 : op = 23
  · subst h23
    go_enter Try.func66, Try.ntmps66
    go_wp2_with fail
    refine (tableAnd_c _).mono ?_
    rintro e w1 ⟨rfl, hb1⟩
    unfold tAnd
    go_wp2_with fail
    refine (eachBit_c _ _ _ _ _ tabAnd s t _ HST.out hs).mono ?_
    rintro e w2 ⟨rfl, hb2⟩
    go_wp2
    go_ret
    exact ⟨ret_str (by unfold oneW; simp), bel hb1 hb2⟩
  by_cases h25 : op = 25
  · subst h25
    go_enter Try.func66, Try.ntmps66
    go_wp2_with fail
    refine (tableOr_c _).mono ?_
    rintro e w1 ⟨rfl, hb1⟩
    unfold tOr
    go_wp2_with fail
    refine (eachBit_c _ _ _ _ _ tabOr s t _ HST.out hs).mono ?_
    rintro e w2 ⟨rfl, hb2⟩
    go_wp2
    go_ret
    exact ⟨ret_str (by unfold oneW; simp), bel hb1 hb2⟩
  by_cases h24 : op = 24
  · subst h24
    go_enter Try.func66, Try.ntmps66
    go_wp2_with fail
    refine (tableXor_c _).mono ?_
    rintro e w1 ⟨rfl, hb1⟩
    unfold tXor
    go_wp2_with fail
    refine (eachBit_c _ _ _ _ _ tabXor s t _ HST.out hs).mono ?_
    rintro e w2 ⟨rfl, hb2⟩
    go_wp2
    go_ret
    exact ⟨ret_str (by unfold oneW; simp), bel hb1 hb2⟩
  have b13 := ne_b h13
  have b14 := ne_b h14
  have b23 := ne_b h23
  have b24 := ne_b h24
  have b25 := ne_b h25
  go_enter Try.func66, Try.ntmps66
  go_wp2_with (go_at_call 76; refine (compared_c op s t _ hs1 hs2).mono ?_; rintro e w1 ⟨rfl, rfl⟩)
  go_ret
  exact ⟨ret_str (by unfold oneW; rw [if_neg h13, if_neg h14, if_neg h23, if_neg h25, if_neg h24]), Below.refl _ _⟩

set_option maxHeartbeats 1000000 in
theorem binary_c (op : Int) (s t : ByteArray) (w : World) (hs0 : 1 ≤ s.size) (hs : s.size ≤ 1000) (ht0 : 1 ≤ t.size) (ht : t.size ≤ 1000) : Calls Try.prog 41 #[.int .i64 op, .string s, .string t] w fun e w' => e = .returned (.string (S (binL op (L s) (L t)))) ∧ Below w.heap.size w w' := by
  have hs1 : s.size ≤ maxLen := by unfold maxLen; omega
  have hs2 : t.size ≤ maxLen := by unfold maxLen; omega
  by_cases h15 : op = 15
  · subst h15
    go_enter Try.func41, Try.ntmps41
    go_wp2_with (go_at_call 64; refine (shifted_c _ s t _ hs0 hs hs2).mono ?_; rintro e w1 ⟨rfl, hb1⟩)
    go_ret
    exact ⟨ret_str (by unfold binL; simp), hb1⟩
  by_cases h16 : op = 16
  · subst h16
    go_enter Try.func41, Try.ntmps41
    go_wp2_with (go_at_call 64; refine (shifted_c _ s t _ hs0 hs hs2).mono ?_; rintro e w1 ⟨rfl, hb1⟩)
    go_ret
    exact ⟨ret_str (by unfold binL; simp), hb1⟩
  by_cases h26 : op = 26
  · subst h26
    go_enter Try.func41, Try.ntmps41
    go_wp2_with (go_at_call 65; refine (ofTruthsAnd_c s t _ hs1 hs2).mono ?_; rintro e w1 ⟨rfl, hb1⟩)
    go_ret
    exact ⟨ret_str (by unfold binL; simp), hb1⟩
  by_cases h27 : op = 27
  · subst h27
    go_enter Try.func41, Try.ntmps41
    go_wp2_with (go_at_call 65; refine (ofTruthsOr_c s t _ hs1 hs2).mono ?_; rintro e w1 ⟨rfl, hb1⟩)
    go_ret
    exact ⟨ret_str (by unfold binL; simp), hb1⟩
  have b15 := ne_b h15
  have b16 := ne_b h16
  have b26 := ne_b h26
  have b27 := ne_b h27
  obtain ⟨m, hm⟩ : ∃ m, m = max s.size t.size := ⟨_, rfl⟩
  have hm1 : 1 ≤ m := by omega
  have hm2 : m ≤ 1000 := by omega
  have hmx : max (s.size : Int) (t.size : Int) = (m : Int) := by omega
  have HM : Hid (m = max s.size t.size) := hm
  clear hm
  go_enter Try.func41, Try.ntmps41
  go_wp2_with fail
  refine (fit_c s m _ hs1 hm1 (by omega)).mono ?_
  rintro e w1 ⟨rfl, hb1⟩
  go_wp2_with fail
  refine (fit_c t m _ hs2 hm1 (by omega)).mono ?_
  rintro e w2 ⟨rfl, hb2⟩
  go_wp2_with fail
  refine (ofOneWidth_c op _ _ _ (by rw [size_S, size_S, len_fit, len_fit]) (by rw [size_S, len_fit]; omega)).mono ?_
  rintro e w3 ⟨rfl, hb3⟩
  go_wp2
  go_ret
  exact ⟨ret_str (by unfold binL; rw [if_neg (by omega), if_neg h26, if_neg h27, L_S, L_S, len_L, len_L, ← HM.out]), bel (bel hb1 hb2) hb3⟩

theorem len_one (c : UInt8) : (S [c]).size = 1 := by rw [size_S]; rfl
theorem turn_one (c : UInt8) : turnL [c] = [bnot c] := rfl

set_option maxHeartbeats 1000000 in
theorem unary_c (op : Int) (s : ByteArray) (w : World) (hs : s.size ≤ 1000) : Calls Try.prog 51 #[.int .i64 op, .string s] w fun e w' => e = .returned (.string (S (unaL op (L s)))) ∧ Below w.heap.size w w' := by
  have hs1 : s.size ≤ maxLen := by unfold maxLen; omega
  by_cases h7 : op = 7
  · subst h7
    go_enter Try.func51, Try.ntmps51
    go_wp2_with (go_at_call 69; refine (turned_c s _ hs).mono ?_; rintro e w1 ⟨rfl, hb1⟩)
    go_ret
    exact ⟨ret_str (by unfold unaL; simp), hb1⟩
  by_cases h9 : op = 9
  · subst h9
    go_enter Try.func51, Try.ntmps51
    go_wp2_with fail
    refine (same_c 48 s.size _ (by omega)).mono ?_
    rintro e w1 ⟨rfl, hb1⟩
    go_wp2_with fail
    refine (difference_c _ s _ (by rw [size_S, len_rep]) (by rw [size_S, len_rep]; exact hs)).mono ?_
    rintro e w2 ⟨rfl, hb2⟩
    go_wp2
    go_ret
    exact ⟨ret_str (by unfold unaL; rw [L_S, len_L]; simp), bel hb1 hb2⟩
  by_cases h10 : op = 10
  · subst h10
    have h1 := fun w => one_c (fold band 49 (L s)) w
    go_enter Try.func51, Try.ntmps51
    go_wp2_with fail
    refine (tableAnd_c _).mono ?_
    rintro e w1 ⟨rfl, hb1⟩
    unfold tAnd
    go_wp2_with fail
    refine (allBits_c _ _ _ _ _ tabAnd 49 s _ hs1).mono ?_
    rintro e w2 ⟨rfl, hb2⟩
    go_wp2
    go_ret
    exact ⟨ret_str (by unfold unaL; simp), belA (bel hb1 hb2) _⟩
  by_cases h11 : op = 11
  · subst h11
    have h1 := fun w => one_c (tru (L s)) w
    go_enter Try.func51, Try.ntmps51
    go_wp2_with fail
    refine (truth_c s _ hs1).mono ?_
    rintro e w1 ⟨rfl, hb1⟩
    go_wp2
    go_ret
    exact ⟨ret_str (by unfold unaL; simp), belA hb1 _⟩
  by_cases h12 : op = 12
  · subst h12
    have h1 := fun w => one_c (fold bxor 48 (L s)) w
    go_enter Try.func51, Try.ntmps51
    go_wp2_with fail
    refine (tableXor_c _).mono ?_
    rintro e w1 ⟨rfl, hb1⟩
    unfold tXor
    go_wp2_with fail
    refine (allBits_c _ _ _ _ _ tabXor 48 s _ hs1).mono ?_
    rintro e w2 ⟨rfl, hb2⟩
    go_wp2
    go_ret
    exact ⟨ret_str (by unfold unaL; simp), belA (bel hb1 hb2) _⟩
  have b7 := ne_b h7
  have b9 := ne_b h9
  have b10 := ne_b h10
  have b11 := ne_b h11
  have b12 := ne_b h12
  have h1 := fun w => one_c (tru (L s)) w
  go_enter Try.func51, Try.ntmps51
  go_wp2_with fail
  refine (truth_c s _ hs1).mono ?_
  rintro e w1 ⟨rfl, hb1⟩
  go_wp2_with fail
  refine (turned_c (S [tru (L s)]) _ (by rw [len_one]; omega)).mono ?_
  rintro e w2 ⟨rfl, hb2⟩
  go_wp2
  go_ret
  exact ⟨ret_str (by unfold unaL; rw [if_neg h7, if_neg h9, if_neg h10, if_neg h11, if_neg h12, L_S, turn_one]), bel (belA hb1 _) hb2⟩
end Go.Proofs.Ytdacoincdkighaa
