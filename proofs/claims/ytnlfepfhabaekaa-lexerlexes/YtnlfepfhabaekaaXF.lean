/- Layer 2 of the program: how far kinds of bytes go, signs, comments. -/
import Derived.Test.YtnlfepfhabaekaaXE
import Derived.Test.YtnlfepfhabaekaaXC
namespace Go.Proofs.Ytnlfepfhabaekaa
open Go.RowKit Lg
set_option linter.unusedVariables false
set_option linter.unusedSimpArgs false

theorem tw_step {p : UInt8 → Bool} (s : ByteArray) (k : Nat) (h : k < s.size) (hp : p s[k] = true) (hk : ((L s).take k).all p = true) : ((L s).take (k + 1)).all p = true := all_snoc s k h hk hp
theorem tw_stop {p : UInt8 → Bool} (s : ByteArray) (k : Nat) (h : k < s.size) (hp : p s[k] = false) (hk : ((L s).take k).all p = true) : ((L s).takeWhile p).length = k := by
  have e : L s = (L s).take k ++ s[k] :: (L s).drop (k + 1) := by rw [← drop_cons s k h, List.take_append_drop]
  rw [e, List.takeWhile_append_of_pos (by simpa using hk), List.takeWhile_cons, hp]
  simp [len_L]; omega
theorem tw_all {p : UInt8 → Bool} (s : ByteArray) (hk : (L s).all p = true) : ((L s).takeWhile p).length = s.size := by
  rw [← List.append_nil (L s), List.takeWhile_append_of_pos (by simpa using hk)]; simp [len_L]

set_option maxHeartbeats 4000000 in
theorem runW_c (s : ByteArray) (w : World) (hs : s.size ≤ maxLen) : Calls Try.prog 40 #[.string s, .int .i64 2] w fun e w' => e = .returned (.int .i64 (((L s).takeWhile worB).length : Nat)) ∧ w' = w := by
  unfold maxLen at hs
  go_enter Try.func40, Try.ntmps40
  go_wp2
  go_loop [8] (fun i => ∃ k : Nat, k ≤ s.size ∧ i = .int .i64 k ∧ Hid (((L s).take k).all worB = true)) (fun i => s.size - (intOf i).toNat)
  case atStart => exact ⟨0, Nat.zero_le _, rfl, by simp [Hid]⟩
  case round =>
    obtain ⟨k, hk, rfl, hh⟩ := hrel
    by_cases hlt : k < s.size
    · rcases worB_kinds s[k] with ⟨hp, hc⟩ | ⟨hp, hc⟩
      · have HS : Hid _ := tw_step s k hlt hp hh.out
        clear hp
        rcases hc with hc | hc
        all_goals
          go_wp2_with (first | (go_at_call 35; refine (kindsOf_c s[k] _).mono ?_; rintro e w' ⟨rfl, rfl⟩; rw [hc]))
          go_round
          case rel => exact ⟨k + 1, by omega, by go_num, HS⟩
          case measure => simp [intOf]; omega
      · have HS : Hid _ := tw_stop s k hlt hp hh.out
        clear hp
        rcases hc with hc | hc | hc | hc | hc | hc | hc
        all_goals
          go_wp2_with (first | (go_at_call 35; refine (kindsOf_c s[k] _).mono ?_; rintro e w' ⟨rfl, rfl⟩; rw [hc]))
          go_ret
          exact ⟨ret_int (by rw [HS.out]), rfl⟩
    · have HS : Hid _ := tw_all s (p := worB) (by have := hh.out; rw [take_all s k (by omega)] at this; exact this)
      go_wp2
      go_ret
      exact ⟨ret_int (by rw [HS.out]), rfl⟩

set_option maxHeartbeats 4000000 in
theorem runN_c (s : ByteArray) (w : World) (hs : s.size ≤ maxLen) : Calls Try.prog 40 #[.string s, .int .i64 4] w fun e w' => e = .returned (.int .i64 (((L s).takeWhile numB).length : Nat)) ∧ w' = w := by
  unfold maxLen at hs
  go_enter Try.func40, Try.ntmps40
  go_wp2
  go_loop [8] (fun i => ∃ k : Nat, k ≤ s.size ∧ i = .int .i64 k ∧ Hid (((L s).take k).all numB = true)) (fun i => s.size - (intOf i).toNat)
  case atStart => exact ⟨0, Nat.zero_le _, rfl, by simp [Hid]⟩
  case round =>
    obtain ⟨k, hk, rfl, hh⟩ := hrel
    by_cases hlt : k < s.size
    · rcases numB_kinds s[k] with ⟨hp, hc⟩ | ⟨hp, hc⟩
      · have HS : Hid _ := tw_step s k hlt hp hh.out
        clear hp
        rcases hc with hc | hc | hc
        all_goals
          go_wp2_with (first | (go_at_call 35; refine (kindsOf_c s[k] _).mono ?_; rintro e w' ⟨rfl, rfl⟩; rw [hc]))
          go_round
          case rel => exact ⟨k + 1, by omega, by go_num, HS⟩
          case measure => simp [intOf]; omega
      · have HS : Hid _ := tw_stop s k hlt hp hh.out
        clear hp
        rcases hc with hc | hc | hc | hc | hc | hc
        all_goals
          go_wp2_with (first | (go_at_call 35; refine (kindsOf_c s[k] _).mono ?_; rintro e w' ⟨rfl, rfl⟩; rw [hc]))
          go_ret
          exact ⟨ret_int (by rw [HS.out]), rfl⟩
    · have HS : Hid _ := tw_all s (p := numB) (by have := hh.out; rw [take_all s k (by omega)] at this; exact this)
      go_wp2
      go_ret
      exact ⟨ret_int (by rw [HS.out]), rfl⟩

theorem sgW_two {l : List UInt8} (h : twos.contains (l.take 2) = true) : sgW l = 2 := by unfold sgW; rw [if_pos h]
theorem sgW_one {l : List UInt8} (h : twos.contains (l.take 2) = false) : sgW l = 1 := by unfold sgW; rw [if_neg (by rw [h]; simp)]
theorem two_not {l : List UInt8} (h : l.length < 2) : twos.contains (l.take 2) = false := by
  match l, h with
  | [], _ => rfl
  | [c], _ => simp [twos]
set_option maxHeartbeats 4000000 in
theorem signWide_c (s : ByteArray) (w : World) (hs : s.size ≤ maxLen) : Calls Try.prog 42 #[.string s] w fun e w' => e = .returned (.int .i64 (sgW (L s) : Nat)) ∧ w' = w := by
  unfold maxLen at hs
  by_cases h2 : s.size < 2
  · have HK : Hid _ := sgW_one (two_not (by rw [len_L]; exact h2))
    go_enter Try.func42, Try.ntmps42
    go_wp2
    go_ret
    exact ⟨ret_int (by rw [HK.out]; rfl), rfl⟩
  · have hx : L (s.extract 0 2) = (L s).take 2 := by rw [L_extract, List.drop_zero]
    by_cases ht : twos.contains ((L s).take 2) = true
    · have HK : Hid _ := sgW_two ht
      rw [← hx] at ht
      have ht2 : L (s.extract 0 2) = [38, 38] ∨ L (s.extract 0 2) = [124, 124] ∨ L (s.extract 0 2) = [61, 61] ∨ L (s.extract 0 2) = [33, 61] ∨ L (s.extract 0 2) = [60, 61] ∨ L (s.extract 0 2) = [62, 61] ∨ L (s.extract 0 2) = [60, 60] ∨ L (s.extract 0 2) = [62, 62] := by simpa [twos] using ht
      clear ht hx
      rcases ht2 with h | h | h | h | h | h | h | h
      · have f0 : ((s.extract 0 2).toList == [38, 38]) = true := by rw [toL, h]; rfl
        clear h
        go_enter Try.func42, Try.ntmps42
        go_wp2
        go_ret
        exact ⟨ret_int (by rw [HK.out]; rfl), rfl⟩
      · have f0 : ((s.extract 0 2).toList == [38, 38]) = false := by rw [toL, h]; rfl
        have f1 : ((s.extract 0 2).toList == [124, 124]) = true := by rw [toL, h]; rfl
        clear h
        go_enter Try.func42, Try.ntmps42
        go_wp2
        go_ret
        exact ⟨ret_int (by rw [HK.out]; rfl), rfl⟩
      · have f0 : ((s.extract 0 2).toList == [38, 38]) = false := by rw [toL, h]; rfl
        have f1 : ((s.extract 0 2).toList == [124, 124]) = false := by rw [toL, h]; rfl
        have f2 : ((s.extract 0 2).toList == [61, 61]) = true := by rw [toL, h]; rfl
        clear h
        go_enter Try.func42, Try.ntmps42
        go_wp2
        go_ret
        exact ⟨ret_int (by rw [HK.out]; rfl), rfl⟩
      · have f0 : ((s.extract 0 2).toList == [38, 38]) = false := by rw [toL, h]; rfl
        have f1 : ((s.extract 0 2).toList == [124, 124]) = false := by rw [toL, h]; rfl
        have f2 : ((s.extract 0 2).toList == [61, 61]) = false := by rw [toL, h]; rfl
        have f3 : ((s.extract 0 2).toList == [33, 61]) = true := by rw [toL, h]; rfl
        clear h
        go_enter Try.func42, Try.ntmps42
        go_wp2
        go_ret
        exact ⟨ret_int (by rw [HK.out]; rfl), rfl⟩
      · have f0 : ((s.extract 0 2).toList == [38, 38]) = false := by rw [toL, h]; rfl
        have f1 : ((s.extract 0 2).toList == [124, 124]) = false := by rw [toL, h]; rfl
        have f2 : ((s.extract 0 2).toList == [61, 61]) = false := by rw [toL, h]; rfl
        have f3 : ((s.extract 0 2).toList == [33, 61]) = false := by rw [toL, h]; rfl
        have f4 : ((s.extract 0 2).toList == [60, 61]) = true := by rw [toL, h]; rfl
        clear h
        go_enter Try.func42, Try.ntmps42
        go_wp2
        go_ret
        exact ⟨ret_int (by rw [HK.out]; rfl), rfl⟩
      · have f0 : ((s.extract 0 2).toList == [38, 38]) = false := by rw [toL, h]; rfl
        have f1 : ((s.extract 0 2).toList == [124, 124]) = false := by rw [toL, h]; rfl
        have f2 : ((s.extract 0 2).toList == [61, 61]) = false := by rw [toL, h]; rfl
        have f3 : ((s.extract 0 2).toList == [33, 61]) = false := by rw [toL, h]; rfl
        have f4 : ((s.extract 0 2).toList == [60, 61]) = false := by rw [toL, h]; rfl
        have f5 : ((s.extract 0 2).toList == [62, 61]) = true := by rw [toL, h]; rfl
        clear h
        go_enter Try.func42, Try.ntmps42
        go_wp2
        go_ret
        exact ⟨ret_int (by rw [HK.out]; rfl), rfl⟩
      · have f0 : ((s.extract 0 2).toList == [38, 38]) = false := by rw [toL, h]; rfl
        have f1 : ((s.extract 0 2).toList == [124, 124]) = false := by rw [toL, h]; rfl
        have f2 : ((s.extract 0 2).toList == [61, 61]) = false := by rw [toL, h]; rfl
        have f3 : ((s.extract 0 2).toList == [33, 61]) = false := by rw [toL, h]; rfl
        have f4 : ((s.extract 0 2).toList == [60, 61]) = false := by rw [toL, h]; rfl
        have f5 : ((s.extract 0 2).toList == [62, 61]) = false := by rw [toL, h]; rfl
        have f6 : ((s.extract 0 2).toList == [60, 60]) = true := by rw [toL, h]; rfl
        clear h
        go_enter Try.func42, Try.ntmps42
        go_wp2
        go_ret
        exact ⟨ret_int (by rw [HK.out]; rfl), rfl⟩
      · have f0 : ((s.extract 0 2).toList == [38, 38]) = false := by rw [toL, h]; rfl
        have f1 : ((s.extract 0 2).toList == [124, 124]) = false := by rw [toL, h]; rfl
        have f2 : ((s.extract 0 2).toList == [61, 61]) = false := by rw [toL, h]; rfl
        have f3 : ((s.extract 0 2).toList == [33, 61]) = false := by rw [toL, h]; rfl
        have f4 : ((s.extract 0 2).toList == [60, 61]) = false := by rw [toL, h]; rfl
        have f5 : ((s.extract 0 2).toList == [62, 61]) = false := by rw [toL, h]; rfl
        have f6 : ((s.extract 0 2).toList == [60, 60]) = false := by rw [toL, h]; rfl
        have f7 : ((s.extract 0 2).toList == [62, 62]) = true := by rw [toL, h]; rfl
        clear h
        go_enter Try.func42, Try.ntmps42
        go_wp2
        go_ret
        exact ⟨ret_int (by rw [HK.out]; rfl), rfl⟩
    · have ht' : twos.contains ((L s).take 2) = false := by simpa using ht
      have HK : Hid _ := sgW_one ht'
      rw [← hx] at ht
      have f0 : ((s.extract 0 2).toList == [38, 38]) = false := by rw [toL, beq_eq_false_iff_ne]; intro e; rw [e] at ht; exact ht rfl
      have f1 : ((s.extract 0 2).toList == [124, 124]) = false := by rw [toL, beq_eq_false_iff_ne]; intro e; rw [e] at ht; exact ht rfl
      have f2 : ((s.extract 0 2).toList == [61, 61]) = false := by rw [toL, beq_eq_false_iff_ne]; intro e; rw [e] at ht; exact ht rfl
      have f3 : ((s.extract 0 2).toList == [33, 61]) = false := by rw [toL, beq_eq_false_iff_ne]; intro e; rw [e] at ht; exact ht rfl
      have f4 : ((s.extract 0 2).toList == [60, 61]) = false := by rw [toL, beq_eq_false_iff_ne]; intro e; rw [e] at ht; exact ht rfl
      have f5 : ((s.extract 0 2).toList == [62, 61]) = false := by rw [toL, beq_eq_false_iff_ne]; intro e; rw [e] at ht; exact ht rfl
      have f6 : ((s.extract 0 2).toList == [60, 60]) = false := by rw [toL, beq_eq_false_iff_ne]; intro e; rw [e] at ht; exact ht rfl
      have f7 : ((s.extract 0 2).toList == [62, 62]) = false := by rw [toL, beq_eq_false_iff_ne]; intro e; rw [e] at ht; exact ht rfl
      clear ht ht' hx
      go_enter Try.func42, Try.ntmps42
      go_wp2
      go_ret
      exact ⟨ret_int (by rw [HK.out]; rfl), rfl⟩

def cmE (l : List UInt8) : Int := Lib.indexByte l 10
def cmI (l : List UInt8) : Int := Lib.index (l.drop 2) [42, 47]
theorem cmE_le (s : ByteArray) : cmE (L s) ≤ s.size := by
  have : ∀ l : List UInt8, Lib.indexByte l 10 ≤ l.length := by
    intro l
    induction l with
    | nil => decide
    | cons c l ih => simp only [Lib.indexByte]; split <;> (try split) <;> simp <;> omega
  rw [← len_L]; exact this _
theorem hp_iff (l : List UInt8) (a b : UInt8) (h : Lib.hasPrefix l [a, b] = true) : ∃ r, l = a :: b :: r := by
  match l, h with
  | [], h => simp [Lib.hasPrefix] at h
  | [x], h => simp [Lib.hasPrefix, List.isPrefixOf] at h
  | x :: y :: r, h =>
    simp [Lib.hasPrefix, List.isPrefixOf] at h
    exact ⟨r, by rw [h.1, h.2]⟩
set_option maxHeartbeats 4000000 in
theorem commentWide_c (s : ByteArray) (m : Int) (w : World) (hs : s.size ≤ 65536) (hm : w.cell? ⟨0, 0, none⟩ = some (.int .i64 m)) : Calls Try.prog 62 #[.string s] w fun e w' => e = .returned (.int .i64 (comW (L s) : Nat)) ∧ w' = w := by
  have HP1 := fun w => Try.strings_HasPrefix s ⟨#[47, 47]⟩ w
  have HP2 := fun w => Try.strings_HasPrefix s ⟨#[47, 42]⟩ w
  have HIB : ∀ w, Calls Try.prog 61 #[.string s, .int .u8 10] w fun e w' => e = .returned (.int .i64 (cmE (L s))) ∧ w' = w := fun w => by
    refine (Try.strings_IndexByte s 10 w).mono ?_
    rintro e w' ⟨rfl, rfl⟩
    exact ⟨rfl, rfl⟩
  cases h1 : Lib.hasPrefix (L s) [47, 47] with
  | true =>
    have HP1' : ∀ w, Calls Try.prog 77 #[.string s, .string ⟨#[47, 47]⟩] w fun e w' => e = .returned (.bool true) ∧ w' = w := fun w => by
      refine (HP1 w).mono ?_
      rintro e w' ⟨rfl, rfl⟩
      exact ⟨ret_bool h1, rfl⟩
    have hle := cmE_le s
    by_cases h2 : 0 ≤ cmE (L s)
    · obtain ⟨n, hn⟩ := Int.eq_ofNat_of_zero_le h2
      have HK : Hid (comW (L s) = n) := by unfold comW; rw [if_pos h1, if_pos (show 0 ≤ Lib.indexByte (L s) 10 from h2)]; show (cmE (L s)).toNat = n; rw [hn]; rfl
      clear HP1 HP2 h1
      go_enter Try.func62, Try.ntmps62
      go_wp2_with (first | (go_at_call 77; refine (HP1' _).mono ?_; rintro e w' ⟨rfl, rfl⟩) | (go_at_call 61; refine (HIB _).mono ?_; rintro e w' ⟨rfl, rfl⟩))
      go_ret
      exact ⟨ret_int (by rw [HK.out]), rfl⟩
    · have HK : Hid (comW (L s) = s.size) := by unfold comW; rw [if_pos h1, if_neg (show ¬ 0 ≤ Lib.indexByte (L s) 10 from h2), len_L]; exact rfl
      clear HP1 HP2 h1
      go_enter Try.func62, Try.ntmps62
      go_wp2_with (first | (go_at_call 77; refine (HP1' _).mono ?_; rintro e w' ⟨rfl, rfl⟩) | (go_at_call 61; refine (HIB _).mono ?_; rintro e w' ⟨rfl, rfl⟩))
      go_ret
      exact ⟨ret_int (by rw [HK.out]), rfl⟩
  | false =>
    have HP1' : ∀ w, Calls Try.prog 77 #[.string s, .string ⟨#[47, 47]⟩] w fun e w' => e = .returned (.bool false) ∧ w' = w := fun w => by
      refine (HP1 w).mono ?_
      rintro e w' ⟨rfl, rfl⟩
      exact ⟨ret_bool h1, rfl⟩
    cases h3 : Lib.hasPrefix (L s) [47, 42] with
    | false =>
      have HP2' : ∀ w, Calls Try.prog 77 #[.string s, .string ⟨#[47, 42]⟩] w fun e w' => e = .returned (.bool false) ∧ w' = w := fun w => by
        refine (HP2 w).mono ?_
        rintro e w' ⟨rfl, rfl⟩
        exact ⟨ret_bool h3, rfl⟩
      have HK : Hid (comW (L s) = 0) := by unfold comW; rw [if_neg (by rw [h1]; simp), if_neg (by rw [h3]; simp)]; exact rfl
      have g1 : Lib.hasPrefix s.data.toList [47, 47] = false := h1
      have g3 : Lib.hasPrefix s.data.toList [47, 42] = false := h3
      clear HP1 HP2 h1 h3 HIB HP1' HP2'
      go_enter Try.func62, Try.ntmps62
      go_wp2_with (first | (go_at_call 77; refine (Try.strings_HasPrefix s _ _).mono ?_; rintro e w' ⟨rfl, rfl⟩))
      go_ret
      exact ⟨ret_int (by rw [HK.out]; rfl), rfl⟩
    | true =>
      have HP2' : ∀ w, Calls Try.prog 77 #[.string s, .string ⟨#[47, 42]⟩] w fun e w' => e = .returned (.bool true) ∧ w' = w := fun w => by
        refine (HP2 w).mono ?_
        rintro e w' ⟨rfl, rfl⟩
        exact ⟨ret_bool h3, rfl⟩
      obtain ⟨r, hr⟩ := hp_iff _ _ _ h3
      have hsz : 2 ≤ s.size := by rw [← len_L, hr]; simp
      have hex : L (s.extract 2 s.size) = (L s).drop 2 := by rw [L_extract, List.take_of_length_le (by simp [len_L])]
      have hxz : (s.extract 2 s.size).size < 4294967281 := by rw [← len_L, hex, List.length_drop, len_L]; omega
      have HIX : Calls Try.prog 78 #[.string (s.extract 2 s.size), .string ⟨#[42, 47]⟩] w fun e w' => e = .returned (.int .i64 (cmI (L s))) ∧ w' = w := by
        refine (Try.strings_Index _ _ m w hxz hm).mono ?_
        rintro e w' ⟨rfl, rfl⟩
        refine ⟨ret_int ?_, rfl⟩
        unfold cmI
        rw [← hex]; rfl
      have hcl : cmI (L s) ≤ 65536 := by
        have : ∀ l : List UInt8, Lib.index l [42, 47] ≤ l.length := by
          intro l
          induction l with
          | nil => decide
          | cons c l ih => simp only [Lib.index]; split <;> (try split) <;> simp <;> omega
        have h := this ((L s).drop 2)
        rw [List.length_drop, len_L] at h
        unfold cmI; omega
      by_cases h4 : 0 ≤ cmI (L s)
      · obtain ⟨n, hn⟩ := Int.eq_ofNat_of_zero_le h4
        have HK : Hid (comW (L s) = 2 + n + 2) := by
          unfold comW; rw [if_neg (by rw [h1]; simp), if_pos h3, if_pos (show 0 ≤ Lib.index ((L s).drop 2) [42, 47] from h4)]
          show 2 + (cmI (L s)).toNat + 2 = _
          rw [hn]; rfl
        have g1 : Lib.hasPrefix s.data.toList [47, 47] = false := h1
        have g3 : Lib.hasPrefix s.data.toList [47, 42] = true := h3
        clear HP1 HP2 h1 h3 HIB hr hex HP1' HP2'
        go_enter Try.func62, Try.ntmps62
        go_wp2_with (first | (go_at_call 77; refine (Try.strings_HasPrefix s _ _).mono ?_; rintro e w' ⟨rfl, rfl⟩) | (go_at_call 78; refine HIX.mono ?_; rintro e w' ⟨rfl, rfl⟩))
        go_ret
        exact ⟨ret_int (by rw [HK.out]; omega), rfl⟩
      · have HK : Hid (comW (L s) = 0) := by
          unfold comW; rw [if_neg (by rw [h1]; simp), if_pos h3, if_neg (show ¬ 0 ≤ Lib.index ((L s).drop 2) [42, 47] from h4)]; exact rfl
        have g1 : Lib.hasPrefix s.data.toList [47, 47] = false := h1
        have g3 : Lib.hasPrefix s.data.toList [47, 42] = true := h3
        clear HP1 HP2 h1 h3 HIB hr hex HP1' HP2'
        go_enter Try.func62, Try.ntmps62
        go_wp2_with (first | (go_at_call 77; refine (Try.strings_HasPrefix s _ _).mono ?_; rintro e w' ⟨rfl, rfl⟩) | (go_at_call 78; refine HIX.mono ?_; rintro e w' ⟨rfl, rfl⟩))
        go_ret
        exact ⟨ret_int (by rw [HK.out]; rfl), rfl⟩
end Go.Proofs.Ytnlfepfhabaekaa
