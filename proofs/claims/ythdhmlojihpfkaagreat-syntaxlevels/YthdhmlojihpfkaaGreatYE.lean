/- Layer 2, the reference: letters, words, what begins at a place, signs. -/
import Derived.Test.YthdhmlojihpfkaaGreatYC
namespace Go.Proofs.YthdhmlojihpfkaaGreat
open Go.RowKit Lg
set_option linter.unusedVariables false
set_option linter.unusedSimpArgs false

set_option maxHeartbeats 400000 in
theorem rLetter_c (c : UInt8) (w : World) : Calls Tryz.prog 44 #[.int .u8 c.toNat] w fun e w' => e = .returned (.bool (letB c)) ∧ w' = w := by
  rw [letB_iff]
  obtain ⟨n, hn⟩ : ∃ n : Int, n = c.toNat := ⟨_, rfl⟩
  rw [← hn]; clear hn
  go_enter Tryz.func44, Tryz.ntmps44
  go_wp2
  all_goals (go_ret; refine ⟨ret_bool ?_, rfl⟩)
  all_goals first | rfl | (rw [Bool.eq_iff_iff]; simp only [Bool.or_eq_true, Bool.and_eq_true, decide_eq_true_eq, beq_iff_eq]; omega)
set_option maxHeartbeats 400000 in
theorem rword_c (c : UInt8) (w : World) : Calls Tryz.prog 45 #[.int .u8 c.toNat] w fun e w' => e = .returned (.bool (worB c)) ∧ w' = w := by
  cases h1 : letB c with
  | true =>
    have HK : Hid (worB c = true) := by unfold worB; rw [h1]; rfl
    go_enter Tryz.func45, Tryz.ntmps45
    go_wp2_with (first | (go_at_call 44; refine (rLetter_c c _).mono ?_; rintro e w' ⟨rfl, rfl⟩; rw [h1]) | (go_at_call 46; refine (rdigit_c c _).mono ?_; rintro e w' ⟨rfl, rfl⟩))
    go_ret
    exact ⟨ret_bool HK.out.symm, rfl⟩
  | false =>
    have HK : Hid (worB c = digB c) := by unfold worB; rw [h1]; rfl
    go_enter Tryz.func45, Tryz.ntmps45
    go_wp2_with (first | (go_at_call 44; refine (rLetter_c c _).mono ?_; rintro e w' ⟨rfl, rfl⟩; rw [h1]) | (go_at_call 46; refine (rdigit_c c _).mono ?_; rintro e w' ⟨rfl, rfl⟩))
    go_ret
    exact ⟨ret_bool HK.out.symm, rfl⟩
theorem pre_take (l t : List UInt8) (h : t.length ≤ l.length) : Lib.hasPrefix l t = (l.take t.length == t) := by
  unfold Lib.hasPrefix
  induction t generalizing l with
  | nil => simp
  | cons c t ih =>
    cases l with
    | nil => simp at h
    | cons d l =>
      simp only [List.isPrefixOf, List.length_cons, List.take_succ_cons]
      rw [ih l (by simpa using h), Bool.eq_iff_iff]
      simp
      intro _
      exact ⟨Eq.symm, Eq.symm⟩
theorem pre_short (l t : List UInt8) (h : l.length < t.length) : Lib.hasPrefix l t = false := by
  unfold Lib.hasPrefix
  rw [Bool.eq_false_iff]
  intro e
  have := (List.isPrefixOf_iff_prefix.1 e).length_le
  omega
set_option maxHeartbeats 1000000 in
theorem begins_c (s t : ByteArray) (p : Nat) (w : World) (hs : s.size ≤ 65536) (hp : p ≤ s.size) (ht : t.size ≤ 1000) :
    Calls Tryz.prog 23 #[.string s, .int .i64 p, .string t] w fun e w' => e = .returned (.bool (Lib.hasPrefix ((L s).drop p) (L t))) ∧ w' = w := by
  by_cases h : p + t.size ≤ s.size
  · obtain ⟨x, hx⟩ : ∃ x, s.extract p (p + t.size) = x := ⟨_, rfl⟩
    have hLx : L x = ((L s).drop p).take (L t).length := by rw [← hx, L_extract, len_L, show p + t.size - p = t.size by omega]
    have HK : Hid (Lib.hasPrefix ((L s).drop p) (L t) = (x.toList == t.toList)) := by rw [toL, toL, hLx]; exact pre_take _ _ (by rw [List.length_drop, len_L, len_L]; omega)
    have hI : (t.size : Int) ≤ (s.size : Int) - (p : Int) := by omega
    have hI2 : (p : Int) + (t.size : Int) ≤ (s.size : Int) := by omega
    clear hLx
    go_enter Tryz.func23, Tryz.ntmps23
    go_wp2
    go_ret
    exact ⟨ret_bool HK.out.symm, rfl⟩
  · have HK : Hid (Lib.hasPrefix ((L s).drop p) (L t) = false) := pre_short _ _ (by rw [List.length_drop, len_L, len_L]; omega)
    have hI : (s.size : Int) - (p : Int) < (t.size : Int) := by omega
    go_enter Tryz.func23, Tryz.ntmps23
    go_wp2
    go_ret
    exact ⟨ret_bool HK.out.symm, rfl⟩
end Go.Proofs.YthdhmlojihpfkaaGreat
