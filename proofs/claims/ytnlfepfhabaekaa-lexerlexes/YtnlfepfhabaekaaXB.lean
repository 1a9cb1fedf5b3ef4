/- Layer 2 of the program: letters, digits, whole numbers. -/
import Derived.Test.YtnlfepfhabaekaaXA
import Derived.Test.YtnlfepfhabaekaaMathL
namespace Go.Proofs.Ytnlfepfhabaekaa
open Go.RowKit Lg
set_option linter.unusedVariables false
set_option linter.unusedSimpArgs false

theorem digB_iff (c : UInt8) : digB c = decide (48 ≤ (c.toNat : Int) ∧ (c.toNat : Int) ≤ 57) := by unfold digB; rw [Bool.eq_iff_iff]; simp; omega
theorem letB_iff (c : UInt8) : letB c = decide ((97 ≤ (c.toNat : Int) ∧ (c.toNat : Int) ≤ 122) ∨ (65 ≤ (c.toNat : Int) ∧ (c.toNat : Int) ≤ 90) ∨ (c.toNat : Int) = 95) := by unfold letB; rw [Bool.eq_iff_iff]; simp; omega

set_option maxHeartbeats 400000 in
theorem isDigit_z (n : Int) (w : World) : Calls Try.prog 60 #[.int .u8 n] w fun e w' => e = .returned (.bool (decide (48 ≤ n ∧ n ≤ 57))) ∧ w' = w := by
  go_enter Try.func60, Try.ntmps60
  go_wp2
  all_goals (go_ret; exact ⟨ret_bool (by simp [*] <;> omega), rfl⟩)

set_option maxHeartbeats 400000 in
theorem isDigit_c (c : UInt8) (w : World) : Calls Try.prog 60 #[.int .u8 c.toNat] w fun e w' => e = .returned (.bool (digB c)) ∧ w' = w := by
  rw [digB_iff]
  obtain ⟨n, hn⟩ : ∃ n : Int, n = c.toNat := ⟨_, rfl⟩
  rw [← hn]; clear hn
  go_enter Try.func60, Try.ntmps60
  go_wp2
  all_goals (go_ret; exact ⟨ret_bool (by simp [*] <;> omega), rfl⟩)

set_option maxHeartbeats 400000 in
theorem isLetter_c (c : UInt8) (w : World) : Calls Try.prog 59 #[.int .u8 c.toNat] w fun e w' => e = .returned (.bool (letB c)) ∧ w' = w := by
  rw [letB_iff]
  obtain ⟨n, hn⟩ : ∃ n : Int, n = c.toNat := ⟨_, rfl⟩
  rw [← hn]; clear hn
  go_enter Try.func59, Try.ntmps59
  go_wp2
  all_goals (go_ret; refine ⟨ret_bool ?_, rfl⟩)
  all_goals first | rfl | (rw [Bool.eq_iff_iff]; simp only [Bool.or_eq_true, Bool.and_eq_true, decide_eq_true_eq, beq_iff_eq]; omega)

theorem drop_cons (s : ByteArray) (k : Nat) (h : k < s.size) : (L s).drop k = s[k] :: (L s).drop (k + 1) := by
  rw [List.drop_eq_getElem_cons (by rw [len_L]; exact h)]; rfl
theorem drop_all (s : ByteArray) (k : Nat) (h : s.size ≤ k) : (L s).drop k = [] := List.drop_of_length_le (by rw [len_L]; exact h)
theorem tupNB {a : Int} {b : Bool} {c : Int} {d : Bool} (h : c = a ∧ d = b) : Ending.returned (.tuple #[.int .i64 a, .bool b]) = .returned (.tuple #[.int .i64 c, .bool d]) := by rw [h.1, h.2]
theorem toL (s : ByteArray) : s.toList = L s := Go.ByteArray.toList_eq s
theorem empty_L (s : ByteArray) : (L s = []) ↔ s.size = 0 := by rw [← len_L, List.length_eq_zero_iff]

set_option maxHeartbeats 1000000 in
theorem wholeNumber_c (s : ByteArray) (m : Nat) (w : World) (hs : s.size ≤ maxLen) (hm : m ≤ 4294967295) :
    Calls Try.prog 50 #[.string s, .int .i64 m] w fun e w' => e = .returned (.tuple #[.int .i64 (oN (whV m (L s))), .bool (oB (whV m (L s)))]) ∧ w' = w := by
  unfold maxLen at hs
  have HV : Hid (∀ x, whF m 0 (L s) = x → s.size ≠ 0 → whV m (L s) = x) := fun x hx h => by unfold whV; rw [if_neg (by rw [empty_L]; exact h)]; exact hx
  go_enter Try.func50, Try.ntmps50
  go_wp2
  go_loop [6, 10] (fun nv i => ∃ k n : Nat, k ≤ s.size ∧ i = .int .i64 k ∧ nv = .int .i64 n ∧ n ≤ m ∧ Hid (whF m 0 (L s) = whF m n ((L s).drop k)) ∧ Hid (s.size = 0 → n = 0)) (fun _ i => s.size - (intOf i).toNat)
  case atStart => exact ⟨0, 0, Nat.zero_le _, rfl, rfl, Nat.zero_le _, rfl, fun _ => rfl⟩
  case round =>
    obtain ⟨k, n, hk, rfl, rfl, hn, HN, HZ⟩ := hrel
    by_cases hlt : k < s.size
    · have hdr := drop_cons s k hlt
      by_cases hd : digB s[k] = true
      · have hd2 := hd
        rw [digB_iff] at hd2
        have hd3 : 48 ≤ ((s[k].toNat : Nat) : Int) ∧ ((s[k].toNat : Nat) : Int) ≤ 57 := of_decide_eq_true hd2
        obtain ⟨d, hdd⟩ : ∃ d : Nat, (s[k].toNat : Nat) = 48 + d := ⟨s[k].toNat - 48, by omega⟩
        have hd9 : d ≤ 9 := by omega
        have e1 : ((s[k].toNat : Nat) : Int) - 48 = (d : Int) := by omega
        have hst : whF m 0 (L s) = if 10 * n + d ≤ m then whF m (10 * n + d) ((L s).drop (k + 1)) else none := by
          rw [HN.out, hdr]; simp only [whF]; rw [if_pos hd, show s[k].toNat - 48 = d by omega]
        have HS : Hid _ := hst
        have HD : Hid ((s[k].toNat : Nat) = 48 + d) := hdd
        clear hst hdr hdd hd2
        by_cases hle : 10 * n + d ≤ m
        · go_wp2_with (go_at_call 60; refine (isDigit_c _ _).mono ?_; rintro e w' ⟨rfl, rfl⟩)
          go_round
          case rel => exact ⟨k + 1, 10 * n + d, by omega, by go_num, by go_num, hle, by have := HS.out; rw [if_pos hle] at this; exact this, fun h => by omega⟩
          case measure => simp [intOf]; omega
        · go_wp2_with (go_at_call 60; refine (isDigit_c _ _).mono ?_; rintro e w' ⟨rfl, rfl⟩)
          go_ret2
          have hv := HV.out none (by have := HS.out; rw [if_neg hle] at this; exact this) (by omega)
          exact ⟨tupNB (by rw [hv]; exact ⟨rfl, rfl⟩), rfl⟩
      · have hd' : digB s[k] = false := by simpa using hd
        have HS : Hid (whF m 0 (L s) = none) := by rw [HN.out, hdr]; simp only [whF]; rw [if_neg hd]; exact rfl
        clear hdr
        go_wp2_with (go_at_call 60; refine (isDigit_c _ _).mono ?_; rintro e w' ⟨rfl, rfl⟩)
        go_ret2
        have hv := HV.out none HS.out (by omega)
        exact ⟨tupNB (by rw [hv]; exact ⟨rfl, rfl⟩), rfl⟩
    · by_cases hz : s.size = 0
      · have hn0 := HZ.out hz
        subst hn0
        have hse : s = ByteArray.empty := by apply L_inj; rw [(empty_L s).2 hz]; rfl
        subst hse
        go_wp2
        go_ret2
        exact ⟨rfl, rfl⟩
      · have hsn : ¬ s.toList = [] := by rw [toL, empty_L]; exact hz
        have hv := HV.out (some n) (by rw [HN.out, drop_all s k (by omega)]; rfl) hz
        have HW : Hid _ := hv
        clear hv
        go_wp2
        go_ret2
        exact ⟨tupNB (by rw [HW.out]; exact ⟨rfl, by simp [oB, hsn]⟩), rfl⟩
end Go.Proofs.Ytnlfepfhabaekaa
