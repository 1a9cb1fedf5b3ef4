/- The reference of layer 1: binary operators, choices, bits. -/
import Derived.Test.YtdacoincdkighaaWV
namespace Go.Proofs.Ytdacoincdkighaa
open Go.RowKit Lg
set_option linter.unusedVariables false

theorem fit_bits (l : List UInt8) (n : Nat) (h : l.all bitB = true) : (fit l n).all bitB = true := by
  rw [List.all_eq_true] at h ⊢
  intro x hx
  unfold fit at hx
  split at hx
  · exact h x (List.mem_of_mem_drop hx)
  · rcases List.mem_append.1 hx with hx | hx
    · rw [List.eq_of_mem_replicate hx]; rfl
    · exact h x hx

set_option maxHeartbeats 2000000 in
theorem rBinaryA_c (op : Int) (s t : ByteArray) (w : World) (hv : vec (L s) = true) (hu : vec (L t) = true) (h : op = 15 ∨ op = 16 ∨ op = 26 ∨ op = 27) : Calls Try.prog 18 #[.int .i64 op, .string s, .string t] w fun e w' => e = .returned (.tuple #[.string (S (binL op (L s) (L t))), .bool true]) ∧ Below w.heap.size w w' := by
  have v1 := vec_len hv
  have v2 := vec_len hu
  rw [len_L] at v1 v2
  obtain ⟨v1a, v1b⟩ := v1
  obtain ⟨v2a, v2b⟩ := v2
  have hs1 : s.size ≤ maxLen := by unfold maxLen; omega
  have hs2 : t.size ≤ maxLen := by unfold maxLen; omega
  rcases h with rfl | rfl | rfl | rfl
  · go_enter Try.func18, Try.ntmps18
    go_wp2_with (go_at_call 42; refine (rshift15_c s t _ (by omega) (by omega) hs2).mono ?_; rintro e w1 ⟨rfl, hb1⟩)
    go_ret2
    exact ⟨tupB (by unfold binL; simp), hb1⟩
  · go_enter Try.func18, Try.ntmps18
    go_wp2_with (go_at_call 42; refine (rshift16_c s t _ (by omega) (by omega) hs2).mono ?_; rintro e w1 ⟨rfl, hb1⟩)
    go_ret2
    exact ⟨tupB (by unfold binL; simp), hb1⟩
  · go_enter Try.func18, Try.ntmps18
    go_wp2_with (first | (go_at_call 34; refine (rTruth_c _ _ (by first | exact hs1 | exact hs2)).mono ?_; rintro e w1 ⟨rfl, rfl⟩) | (go_at_call 44; refine (rAnd_c _ _ _).mono ?_; rintro e w1 ⟨rfl, rfl⟩) | (go_at_call 43; refine (rone_c _ _).mono ?_; rintro e w2 ⟨rfl, hb2⟩))
    go_ret2
    exact ⟨tupB (by unfold binL; simp), by assumption⟩
  · go_enter Try.func18, Try.ntmps18
    go_wp2_with (first | (go_at_call 34; refine (rTruth_c _ _ (by first | exact hs1 | exact hs2)).mono ?_; rintro e w1 ⟨rfl, rfl⟩) | (go_at_call 45; refine (rOr_c _ _ _).mono ?_; rintro e w1 ⟨rfl, rfl⟩) | (go_at_call 43; refine (rone_c _ _).mono ?_; rintro e w2 ⟨rfl, hb2⟩))
    go_ret2
    exact ⟨tupB (by unfold binL; simp), by assumption⟩

set_option maxHeartbeats 4000000 in
theorem rBinaryB_c (op : Int) (s t : ByteArray) (w : World) (hv : vec (L s) = true) (hu : vec (L t) = true) (h1 : 13 ≤ op) (h2 : op ≤ 27) (h15 : ¬ op = 15) (h16 : ¬ op = 16) (h26 : ¬ op = 26) (h27 : ¬ op = 27) : Calls Try.prog 18 #[.int .i64 op, .string s, .string t] w fun e w' => e = .returned (.tuple #[.string (S (binL op (L s) (L t))), .bool true]) ∧ Below w.heap.size w w' := by
  have v1 := vec_len hv
  have v2 := vec_len hu
  rw [len_L] at v1 v2
  obtain ⟨v1a, v1b⟩ := v1
  obtain ⟨v2a, v2b⟩ := v2
  have hs1 : s.size ≤ maxLen := by unfold maxLen; omega
  have hs2 : t.size ≤ maxLen := by unfold maxLen; omega
  have b15 := ne_b h15
  have b16 := ne_b h16
  have b26 := ne_b h26
  have b27 := ne_b h27
  obtain ⟨m, hm⟩ : ∃ m, m = max s.size t.size := ⟨_, rfl⟩
  have hm1 : 1 ≤ m := by omega
  have hm2 : m ≤ 256 := by omega
  have hmx : max (s.size : Int) (t.size : Int) = (m : Int) := by omega
  have HM : Hid (m = max s.size t.size) := hm
  have HB : Hid (binL op (L s) (L t) = oneW op (fit (L s) m) (fit (L t) m)) := show _ = _ from by unfold binL; rw [if_neg (by omega), if_neg h26, if_neg h27, len_L, len_L, ← hm]
  clear hm
  obtain ⟨a, ha⟩ : ∃ a, a = S (fit (L s) m) := ⟨_, rfl⟩
  obtain ⟨b, hb⟩ : ∃ b, b = S (fit (L t) m) := ⟨_, rfl⟩
  have az : a.size = m := by rw [ha, size_S, len_fit]
  have bz' : b.size = m := by rw [hb, size_S, len_fit]
  have aL : L a = fit (L s) m := by rw [ha, L_S]
  have bL : L b = fit (L t) m := by rw [hb, L_S]
  have ab : (L a).all bitB = true := by rw [aL]; exact fit_bits _ _ (vec_all hv)
  have bb : (L b).all bitB = true := by rw [bL]; exact fit_bits _ _ (vec_all hu)
  rw [← aL, ← bL] at HB
  have hsz : a.size = b.size := by omega
  have ha1 : a.size ≤ 256 := by omega
  have hb1' : b.size ≤ 256 := by omega
  have ha2 : a.size ≤ maxLen := by unfold maxLen; omega
  have hb2' : b.size ≤ maxLen := by unfold maxLen; omega
  have HA : Hid (a = S (fit (L s) m)) := ha
  have HBB : Hid (b = S (fit (L t) m)) := hb
  have HZ : Hid (a.size = b.size) := hsz
  have HAB : Hid _ := ab
  have HBBB : Hid _ := bb
  have haz : m = a.size := az.symm
  have HAZ : Hid (m = a.size) := haz
  clear ha hb az bz' aL bL ab bb hsz haz hv hu
  by_cases h23 : op = 23
  · subst h23
    go_enter Try.func18, Try.ntmps18
    go_wp2_with (first | (go_at_call_of 30 (Value.string s); refine (rFit_c s m _ hs1 (by omega)).mono ?_; rintro e w1 ⟨rfl, hb1⟩; rw [← HA.out]) | (go_at_call_of 30 (Value.string t); refine (rFit_c t m _ hs2 (by omega)).mono ?_; rintro e w2 ⟨rfl, hb2⟩; rw [← HBB.out]) | (go_at_call 47; refine (rbitsAnd_c a b _ HZ.out (by omega)).mono ?_; rintro e w3 ⟨rfl, hb3⟩))
    go_ret2
    exact ⟨tupB (by rw [HB.out]; unfold oneW; simp), bel (bel hb1 hb2) hb3⟩
  by_cases h25 : op = 25
  · subst h25
    go_enter Try.func18, Try.ntmps18
    go_wp2_with (first | (go_at_call_of 30 (Value.string s); refine (rFit_c s m _ hs1 (by omega)).mono ?_; rintro e w1 ⟨rfl, hb1⟩; rw [← HA.out]) | (go_at_call_of 30 (Value.string t); refine (rFit_c t m _ hs2 (by omega)).mono ?_; rintro e w2 ⟨rfl, hb2⟩; rw [← HBB.out]) | (go_at_call 47; refine (rbitsOr_c a b _ HZ.out (by omega)).mono ?_; rintro e w3 ⟨rfl, hb3⟩))
    go_ret2
    exact ⟨tupB (by rw [HB.out]; unfold oneW; simp), bel (bel hb1 hb2) hb3⟩
  by_cases h24 : op = 24
  · subst h24
    go_enter Try.func18, Try.ntmps18
    go_wp2_with (first | (go_at_call_of 30 (Value.string s); refine (rFit_c s m _ hs1 (by omega)).mono ?_; rintro e w1 ⟨rfl, hb1⟩; rw [← HA.out]) | (go_at_call_of 30 (Value.string t); refine (rFit_c t m _ hs2 (by omega)).mono ?_; rintro e w2 ⟨rfl, hb2⟩; rw [← HBB.out]) | (go_at_call 47; refine (rbitsXor_c a b _ HZ.out (by omega)).mono ?_; rintro e w3 ⟨rfl, hb3⟩))
    go_ret2
    exact ⟨tupB (by rw [HB.out, xor_str a b HAB.out HBBB.out HZ.out]; unfold oneW; simp), bel (bel hb1 hb2) hb3⟩
  by_cases h13 : op = 13
  · subst h13
    by_cases k1 : kno (L a) = true
    · by_cases k2 : kno (L b) = true
      · go_enter Try.func18, Try.ntmps18
        go_wp2_with (first | (go_at_call_of 30 (Value.string s); refine (rFit_c s m _ hs1 (by omega)).mono ?_; rintro e w1 ⟨rfl, hb1⟩; rw [← HA.out]) | (go_at_call_of 30 (Value.string t); refine (rFit_c t m _ hs2 (by omega)).mono ?_; rintro e w2 ⟨rfl, hb2⟩; rw [← HBB.out]) | (go_at_call_of 32 (Value.string a); refine (rknown_c a _ ha2).mono ?_; rintro e w4 ⟨rfl, hw1⟩; have hw2 := hw1.symm; subst hw2) | (go_at_call_of 32 (Value.string b); refine (rknown_c b _ hb2').mono ?_; rintro e w4 ⟨rfl, hw1⟩; have hw2 := hw1.symm; subst hw2) | (go_at_call 49; refine (rsum_c a b 0 _ HZ.out (by omega) (by omega) k1 k2).mono ?_; rintro e w3 ⟨rfl, hb3⟩))
        go_ret2
        exact ⟨tupB (by rw [HB.out]; unfold oneW; simp only [if_true]; unfold totL; rw [k1, k2]; simp), bel (bel hb1 hb2) hb3⟩
      · have k2' : kno (L b) = false := by simpa using k2
        go_enter Try.func18, Try.ntmps18
        go_wp2_with (first | (go_at_call_of 30 (Value.string s); refine (rFit_c s m _ hs1 (by omega)).mono ?_; rintro e w1 ⟨rfl, hb1⟩; rw [← HA.out]) | (go_at_call_of 30 (Value.string t); refine (rFit_c t m _ hs2 (by omega)).mono ?_; rintro e w2 ⟨rfl, hb2⟩; rw [← HBB.out]) | (go_at_call_of 32 (Value.string a); refine (rknown_c a _ ha2).mono ?_; rintro e w4 ⟨rfl, hw1⟩; have hw2 := hw1.symm; subst hw2) | (go_at_call_of 32 (Value.string b); refine (rknown_c b _ hb2').mono ?_; rintro e w4 ⟨rfl, hw1⟩; have hw2 := hw1.symm; subst hw2) | (go_at_call 48; refine (rAll_c 120 m _ (by omega)).mono ?_; rintro e w3 ⟨rfl, hb3⟩))
        go_ret2
        exact ⟨tupB (by rw [HB.out]; unfold oneW; simp only [if_true]; unfold totL; rw [k2', len_L, ← HAZ.out]; simp), bel (bel hb1 hb2) hb3⟩
    · have k1' : kno (L a) = false := by simpa using k1
      go_enter Try.func18, Try.ntmps18
      go_wp2_with (first | (go_at_call_of 30 (Value.string s); refine (rFit_c s m _ hs1 (by omega)).mono ?_; rintro e w1 ⟨rfl, hb1⟩; rw [← HA.out]) | (go_at_call_of 30 (Value.string t); refine (rFit_c t m _ hs2 (by omega)).mono ?_; rintro e w2 ⟨rfl, hb2⟩; rw [← HBB.out]) | (go_at_call_of 32 (Value.string a); refine (rknown_c a _ ha2).mono ?_; rintro e w4 ⟨rfl, hw1⟩; have hw2 := hw1.symm; subst hw2) | (go_at_call_of 32 (Value.string b); refine (rknown_c b _ hb2').mono ?_; rintro e w4 ⟨rfl, hw1⟩; have hw2 := hw1.symm; subst hw2) | (go_at_call 48; refine (rAll_c 120 m _ (by omega)).mono ?_; rintro e w3 ⟨rfl, hb3⟩))
      go_ret2
      exact ⟨tupB (by rw [HB.out]; unfold oneW; simp only [if_true]; unfold totL; rw [k1', len_L, ← HAZ.out]; simp), bel (bel hb1 hb2) hb3⟩
  by_cases h14 : op = 14
  · subst h14
    by_cases k1 : kno (L a) = true
    · by_cases k2 : kno (L b) = true
      · go_enter Try.func18, Try.ntmps18
        go_wp2_with (first | (go_at_call_of 30 (Value.string s); refine (rFit_c s m _ hs1 (by omega)).mono ?_; rintro e w1 ⟨rfl, hb1⟩; rw [← HA.out]) | (go_at_call_of 30 (Value.string t); refine (rFit_c t m _ hs2 (by omega)).mono ?_; rintro e w2 ⟨rfl, hb2⟩; rw [← HBB.out]) | (go_at_call_of 32 (Value.string a); refine (rknown_c a _ ha2).mono ?_; rintro e w4 ⟨rfl, hw1⟩; have hw2 := hw1.symm; subst hw2) | (go_at_call_of 32 (Value.string b); refine (rknown_c b _ hb2').mono ?_; rintro e w4 ⟨rfl, hw1⟩; have hw2 := hw1.symm; subst hw2) | (go_at_call 50; refine (rturned_c b _ (by omega)).mono ?_; rintro e w3 ⟨rfl, hb3⟩) | (go_at_call 49; refine (rsum_c a (S (turnL (L b))) 1 _ (by rw [size_S, len_turnL, len_L]; exact HZ.out) (by omega) (by omega) k1 (by rw [L_S]; exact kno_turn _ k2)).mono ?_; rintro e w5 ⟨rfl, hb5⟩; rw [L_S]))
        go_ret2
        exact ⟨tupB (by rw [HB.out]; unfold oneW; simp only [if_true, show ¬ ((14 : Int) = 13) by decide, if_false]; unfold difL; rw [k1, k2]; simp), bel (bel (bel hb1 hb2) hb3) hb5⟩
      · have k2' : kno (L b) = false := by simpa using k2
        go_enter Try.func18, Try.ntmps18
        go_wp2_with (first | (go_at_call_of 30 (Value.string s); refine (rFit_c s m _ hs1 (by omega)).mono ?_; rintro e w1 ⟨rfl, hb1⟩; rw [← HA.out]) | (go_at_call_of 30 (Value.string t); refine (rFit_c t m _ hs2 (by omega)).mono ?_; rintro e w2 ⟨rfl, hb2⟩; rw [← HBB.out]) | (go_at_call_of 32 (Value.string a); refine (rknown_c a _ ha2).mono ?_; rintro e w4 ⟨rfl, hw1⟩; have hw2 := hw1.symm; subst hw2) | (go_at_call_of 32 (Value.string b); refine (rknown_c b _ hb2').mono ?_; rintro e w4 ⟨rfl, hw1⟩; have hw2 := hw1.symm; subst hw2) | (go_at_call 48; refine (rAll_c 120 m _ (by omega)).mono ?_; rintro e w3 ⟨rfl, hb3⟩))
        go_ret2
        exact ⟨tupB (by rw [HB.out]; unfold oneW; simp only [if_true, show ¬ ((14 : Int) = 13) by decide, if_false]; unfold difL; rw [k2', len_L, ← HAZ.out]; simp), bel (bel hb1 hb2) hb3⟩
    · have k1' : kno (L a) = false := by simpa using k1
      go_enter Try.func18, Try.ntmps18
      go_wp2_with (first | (go_at_call_of 30 (Value.string s); refine (rFit_c s m _ hs1 (by omega)).mono ?_; rintro e w1 ⟨rfl, hb1⟩; rw [← HA.out]) | (go_at_call_of 30 (Value.string t); refine (rFit_c t m _ hs2 (by omega)).mono ?_; rintro e w2 ⟨rfl, hb2⟩; rw [← HBB.out]) | (go_at_call_of 32 (Value.string a); refine (rknown_c a _ ha2).mono ?_; rintro e w4 ⟨rfl, hw1⟩; have hw2 := hw1.symm; subst hw2) | (go_at_call_of 32 (Value.string b); refine (rknown_c b _ hb2').mono ?_; rintro e w4 ⟨rfl, hw1⟩; have hw2 := hw1.symm; subst hw2) | (go_at_call 48; refine (rAll_c 120 m _ (by omega)).mono ?_; rintro e w3 ⟨rfl, hb3⟩))
      go_ret2
      exact ⟨tupB (by rw [HB.out]; unfold oneW; simp only [if_true, show ¬ ((14 : Int) = 13) by decide, if_false]; unfold difL; rw [k1', len_L, ← HAZ.out]; simp), bel (bel hb1 hb2) hb3⟩
  rcases (show op = 17 ∨ op = 18 ∨ op = 19 ∨ op = 20 ∨ op = 21 ∨ op = 22 by omega) with rfl | rfl | rfl | rfl | rfl | rfl
  all_goals
    go_enter Try.func18, Try.ntmps18
    go_wp2_with (first | (go_at_call_of 30 (Value.string s); refine (rFit_c s m _ hs1 (by omega)).mono ?_; rintro e w1 ⟨rfl, hb1⟩; rw [← HA.out]) | (go_at_call_of 30 (Value.string t); refine (rFit_c t m _ hs2 (by omega)).mono ?_; rintro e w2 ⟨rfl, hb2⟩; rw [← HBB.out]) | (go_at_call 46; refine (rcompared_c _ a b _ ha2 hb2').mono ?_; rintro e w3 ⟨rfl, hw1⟩; have hw2 := hw1.symm; subst hw2))
    go_ret2
    exact ⟨tupB (by rw [HB.out]; unfold oneW; simp), bel hb1 hb2⟩

theorem rBinary_c (op : Int) (s t : ByteArray) (w : World) (hv : vec (L s) = true) (hu : vec (L t) = true) (h1 : 13 ≤ op) (h2 : op ≤ 27) : Calls Try.prog 18 #[.int .i64 op, .string s, .string t] w fun e w' => e = .returned (.tuple #[.string (S (binL op (L s) (L t))), .bool true]) ∧ Below w.heap.size w w' := by
  by_cases h : op = 15 ∨ op = 16 ∨ op = 26 ∨ op = 27
  · exact rBinaryA_c op s t w hv hu h
  · exact rBinaryB_c op s t w hv hu h1 h2 (by omega) (by omega) (by omega) (by omega)
end Go.Proofs.Ytdacoincdkighaa
