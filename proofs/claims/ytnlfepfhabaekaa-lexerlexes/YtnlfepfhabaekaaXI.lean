/- Layer 2 of the program: a tick. -/
import Derived.Test.YtnlfepfhabaekaaXH
import Derived.Test.YtnlfepfhabaekaaMathN
namespace Go.Proofs.Ytnlfepfhabaekaa
open Go.RowKit Lg
set_option linter.unusedVariables false
set_option linter.unusedSimpArgs false

theorem evens (c : UInt8) (h : letB c = false) : kinds c = 6 ∨ kinds c = 4 ∨ kinds c = 24 ∨ kinds c = 8 ∨ kinds c = 32 ∨ kinds c = 64 ∨ kinds c = 128 ∨ kinds c = 0 := by
  rcases kcases c with k | k | k | k | k | k | k | k | k
  · rw [k.1] at h; cases h
  · left; exact k.2.2
  all_goals (first | (have := k.2.2.2.2.2.2.2.2.2.2; simp [this]; done) | (have := k.2.2.2; simp [this]; done) | (have := k.2; simp [this]; done))
theorem take_pre (y : ByteArray) (q : UInt8 → Bool) : L (y.extract 0 ((L y).takeWhile q).length) = (L y).takeWhile q := by
  rw [L_extract, List.drop_zero, Nat.sub_zero]
  have := List.takeWhile_append_dropWhile (p := q) (l := L y)
  conv => lhs; arg 2; rw [← this]
  rw [List.take_left]

set_option maxHeartbeats 4000000 in
theorem tick_c (B b : Nat) (s : ByteArray) (p : Nat) (df : Bool) (ts : List Tok) (w : World) (h : Rd B b s p df ts w) (hl : ts.length ≤ 16384) (hp : p ≤ 65536) (hBw : B ≤ w.heap.size) (x : ByteArray) (hx : x.size ≤ 65536) (hx1 : 1 ≤ x.size) :
    Calls Try.prog 38 #[.pointer (some ⟨b, 0, none⟩), .string x] w fun e w' => e = .returned (.int .i64 (codeO ts.length (tickP ((L x).drop 1)))) ∧ (After B b s p df ts (tickP ((L x).drop 1)) w' ∧ Below B w w') := by
  obtain ⟨y, hy⟩ : ∃ y, x.extract 1 x.size = y := ⟨_, rfl⟩
  have hLy : L y = (L x).drop 1 := by rw [← hy, L_extract, List.take_of_length_le (by simp [len_L])]
  have hys : y.size ≤ 65536 := by rw [← len_L, hLy, List.length_drop, len_L]; omega
  have hym : y.size ≤ maxLen := by unfold maxLen; omega
  rw [← hLy]
  clear hLy
  by_cases hz : y.size = 0
  · have hye : L y = [] := (empty_L y).2 hz
    have HS : Hid (tickP (L y) = .err 20) := by unfold tickP; rw [if_pos (Or.inl hye)]; exact rfl
    have hemp : y.toList.isEmpty = true := by rw [toL, hye]; rfl
    rw [HS.out]
    clear hye HS
    go_enter Try.func38, Try.ntmps38
    go_wp2
    go_ret
    exact ⟨rfl, ⟨df, h⟩, Below.refl _ _⟩
  · have hyp : 0 < y.size := by omega
    have hye : ¬ L y = [] := by rw [empty_L]; exact hz
    have hemp : y.toList.isEmpty = false := by rw [toL, List.isEmpty_eq_false_iff]; exact hye
    by_cases hlt : letB y[0] = true
    · have hk : kinds y[0] = 7 := by unfold kinds; rw [if_pos hlt]
      obtain ⟨n, hn⟩ : ∃ n, n = ((L y).takeWhile worB).length := ⟨_, rfl⟩
      have hny : n ≤ y.size := by rw [hn, ← len_L]; exact tw_len _ _
      obtain ⟨z, hzz⟩ : ∃ z, y.extract 0 n = z := ⟨_, rfl⟩
      have hLz : L z = wordL (L y) := by rw [← hzz, hn]; exact take_pre y worB
      have hzs : z.size = n := by rw [← len_L, hLz, hn]; rfl
      have hrun := fun w => runW_c y w hym
      rw [← hn] at hrun
      have hT : tickP (L y) = if 64 < n then .err 4 else .tk 4 (L z) (1 + n) := by
        unfold tickP
        rw [if_neg (by rw [← headD_at y hyp, hlt]; simp [hye]), ← hLz, len_L, hzs]
      rw [hT]
      clear hT hye hn
      by_cases hbig : 64 < n
      · rw [if_pos hbig]
        go_enter Try.func38, Try.ntmps38
        go_wp2_with (first | (go_at_call 35; refine (kindsOf_c y[0] _).mono ?_; rintro e w' ⟨rfl, rfl⟩; rw [hk]) | (go_at_call 40; refine (hrun _).mono ?_; rintro e w' ⟨rfl, rfl⟩))
        go_ret
        exact ⟨rfl, ⟨df, h⟩, Below.refl _ _⟩
      · rw [if_neg hbig]
        by_cases hdf : L z = defW
        · have hzd : (z.toList == [100, 101, 102, 105, 110, 101]) = true := by rw [toL, hdf]; rfl
          have hr := rd_setd h true
          have hsz : (w.setCell ⟨b, 2, none⟩ (.bool true)).heap.size = w.heap.size := by simp [World.setCell]
          obtain ⟨v, h1, hh, ho, hne⟩ := h
          obtain ⟨c0, c1, c2, c3, cf⟩ := rd_cells hh
          have f2 := cf 2
          have HR : Hid _ := hr
          have HZ : Hid (B ≤ (w.setCell ⟨b, 2, none⟩ (.bool true)).heap.size) := by rw [hsz]; exact hBw
          have hd : dfN df 4 (L z) = true := by unfold dfN; rw [hdf]; simp
          have HA : Hid (∀ w', TkAfter B b s p true ts 4 (L z) (1 + n) w' → After B b s p df ts (.tk 4 (L z) (1 + n)) w') := fun w' a => by show TkAfter B b s p (dfN df 4 (L z)) ts 4 (L z) (1 + n) w'; rw [hd]; exact a
          clear hr hh ho hne cf hsz hd hdf hLz
          go_enter Try.func38, Try.ntmps38
          go_wp2_with (first | (go_at_call 35; refine (kindsOf_c y[0] _).mono ?_; rintro e w' ⟨rfl, rfl⟩; rw [hk]) | (go_at_call 40; refine (hrun _).mono ?_; rintro e w' ⟨rfl, rfl⟩) | (go_at_call 43; refine (take_n B b s p true ts 4 z _ (1 + n) _ HR.out.1 hl hp (by omega) HZ.out (by omega)).mono ?_; rintro e w' ⟨rfl, ha, hb⟩))
          go_ret
          exact ⟨rfl, HA.out _ ha, HR.out.2.trans hb⟩
        · have hzd : (z.toList == [100, 101, 102, 105, 110, 101]) = false := by rw [toL, beq_eq_false_iff_ne]; exact hdf
          have hd : dfN df 4 (L z) = df := by
            unfold dfN
            rw [if_neg (by decide), show (L z == defW) = false from beq_eq_false_iff_ne.2 hdf]; simp
          have HA : Hid (∀ w', TkAfter B b s p df ts 4 (L z) (1 + n) w' → After B b s p df ts (.tk 4 (L z) (1 + n)) w') := fun w' a => by show TkAfter B b s p (dfN df 4 (L z)) ts 4 (L z) (1 + n) w'; rw [hd]; exact a
          clear hd hdf hLz
          go_enter Try.func38, Try.ntmps38
          go_wp2_with (first | (go_at_call 35; refine (kindsOf_c y[0] _).mono ?_; rintro e w' ⟨rfl, rfl⟩; rw [hk]) | (go_at_call 40; refine (hrun _).mono ?_; rintro e w' ⟨rfl, rfl⟩) | (go_at_call 43; refine (take_n B b s p df ts 4 z _ (1 + n) _ h hl hp (by omega) hBw (by omega)).mono ?_; rintro e w' ⟨rfl, ha, hb⟩))
          go_ret
          exact ⟨rfl, HA.out _ ha, hb⟩
    · have hlt' : letB y[0] = false := by simpa using hlt
      have HS : Hid (tickP (L y) = .err 20) := by unfold tickP; rw [if_pos (Or.inr (by rw [← headD_at y hyp]; exact hlt'))]; exact rfl
      rw [HS.out]
      have hev := evens y[0] hlt'
      clear HS hye
      rcases hev with hk | hk | hk | hk | hk | hk | hk | hk
      all_goals
        go_enter Try.func38, Try.ntmps38
        go_wp2_with (first | (go_at_call 35; refine (kindsOf_c y[0] _).mono ?_; rintro e w' ⟨rfl, rfl⟩; rw [hk]))
        go_ret
        exact ⟨rfl, ⟨df, h⟩, Below.refl _ _⟩
end Go.Proofs.Ytnlfepfhabaekaa
