/- The reference of layer 1: operators. -/
import Derived.Test.YtdacoincdkighaaWP
namespace Go.Proofs.Ytdacoincdkighaa
open Go.RowKit Lg
set_option linter.unusedVariables false

theorem bw_at (f : UInt8 → UInt8 → UInt8) (s t : ByteArray) (k : Nat) (h1 : k < s.size) (h2 : k < t.size) : f s[k] t[k] = bw f (L s) (L t) k := by unfold bw; rw [at_getD, at_getD]
theorem bw_str (f : UInt8 → UInt8 → UInt8) (s t : ByteArray) : tab s.size (bw f (L s) (L t)) = bitwise f (L s) (L t) := by unfold bitwise; rw [len_L]
theorem xor_str (s t : ByteArray) (hs : (L s).all bitB = true) (ht : (L t).all bitB = true) (hst : s.size = t.size) : bitwise rxor (L s) (L t) = bitwise bxor (L s) (L t) := by
  refine tab_congr fun i hi => ?_
  rw [len_L] at hi
  unfold bw
  rw [← at_getD s i hi, ← at_getD t i (by omega)]
  refine rxor_bits _ _ ?_ ?_
  · rw [List.all_eq_true] at hs; exact hs _ (by rw [← L_get s i hi]; exact List.getElem_mem _)
  · rw [List.all_eq_true] at ht; exact ht _ (by rw [← L_get t i (by omega)]; exact List.getElem_mem _)

set_option maxHeartbeats 1000000 in
theorem rbitsAnd_c (s t : ByteArray) (w : World) (hst : s.size = t.size) (hs : s.size ≤ 1000) : Calls Try.prog 47 #[.int .i64 23, .string s, .string t] w fun e w' => e = .returned (.string (S (bitwise band (L s) (L t)))) ∧ Below w.heap.size w w' := by
  have hmk := make_c s.size (by omega)
  have hz1 : s.size ≤ t.size := by omega
  clear hst
  go_enter Try.func47, Try.ntmps47
  go_wp2
  go_loopw [8] (fun i wr => ∃ k : Nat, k ≤ s.size ∧ i = .int .i64 k ∧ Hid (Below w.heap.size w wr) ∧ Hid (wr.rowIs w.heap.size 5 s.size (up (bw band (L s) (L t)) k))) (fun i _ => s.size - (intOf i).toNat)
  case atStart => exact ⟨0, Nat.zero_le _, rfl, (Below.refl _ _).alloc (by simp) _, made_up _ _ _ _ (by simp)⟩
  case round =>
    obtain ⟨k, hk, rfl, hb, hr⟩ := hrel
    by_cases hlt : k < s.size
    · have hlt2 : k < t.size := by omega
      have hc1 : wr.cell? ⟨w.heap.size, k, none⟩ = some (.int .u8 0) := by rw [hr.out.cell hlt]; simp [up]
      have hf1 : wr.frozen? ⟨w.heap.size, k, none⟩ = false := hr.out.frozen _
      have hkI : (k : Int) < (s.size : Int) := by omega
      have hkJ : (k : Int) < (t.size : Int) := by omega
      go_wp2
      go_region_with (go_at_call 44; refine (rAnd_c _ _ _).mono ?_; rintro e w' ⟨rfl, rfl⟩)
      all_goals go_wp2
      all_goals
        go_roundw
        case rel => exact ⟨k + 1, by omega, by go_num, by repeat (first | exact (hb.out.setCell (by simp) _) | refine Below.drew ?_), (hr.out.set k _).congr (fun j _ => up_step _ k _ (by rw [← bw_at _ s t k hlt hlt2]) j)⟩
        case measure => simp [intOf]; omega
    · have hcv := conv_c s.size w.heap.size (bw band (L s) (L t)) _ wr hr.out (fun j hj => by unfold up; rw [if_pos (by omega)])
      rw [bw_str] at hcv
      go_wp2
      go_ret
      exact ⟨rfl, hb.out⟩

set_option maxHeartbeats 1000000 in
theorem rbitsOr_c (s t : ByteArray) (w : World) (hst : s.size = t.size) (hs : s.size ≤ 1000) : Calls Try.prog 47 #[.int .i64 25, .string s, .string t] w fun e w' => e = .returned (.string (S (bitwise bor (L s) (L t)))) ∧ Below w.heap.size w w' := by
  have hmk := make_c s.size (by omega)
  have hz1 : s.size ≤ t.size := by omega
  clear hst
  go_enter Try.func47, Try.ntmps47
  go_wp2
  go_loopw [8] (fun i wr => ∃ k : Nat, k ≤ s.size ∧ i = .int .i64 k ∧ Hid (Below w.heap.size w wr) ∧ Hid (wr.rowIs w.heap.size 5 s.size (up (bw bor (L s) (L t)) k))) (fun i _ => s.size - (intOf i).toNat)
  case atStart => exact ⟨0, Nat.zero_le _, rfl, (Below.refl _ _).alloc (by simp) _, made_up _ _ _ _ (by simp)⟩
  case round =>
    obtain ⟨k, hk, rfl, hb, hr⟩ := hrel
    by_cases hlt : k < s.size
    · have hlt2 : k < t.size := by omega
      have hc1 : wr.cell? ⟨w.heap.size, k, none⟩ = some (.int .u8 0) := by rw [hr.out.cell hlt]; simp [up]
      have hf1 : wr.frozen? ⟨w.heap.size, k, none⟩ = false := hr.out.frozen _
      have hkI : (k : Int) < (s.size : Int) := by omega
      have hkJ : (k : Int) < (t.size : Int) := by omega
      go_wp2
      go_region_with (go_at_call 45; refine (rOr_c _ _ _).mono ?_; rintro e w' ⟨rfl, rfl⟩)
      all_goals go_wp2
      all_goals
        go_roundw
        case rel => exact ⟨k + 1, by omega, by go_num, by repeat (first | exact (hb.out.setCell (by simp) _) | refine Below.drew ?_), (hr.out.set k _).congr (fun j _ => up_step _ k _ (by rw [← bw_at _ s t k hlt hlt2]) j)⟩
        case measure => simp [intOf]; omega
    · have hcv := conv_c s.size w.heap.size (bw bor (L s) (L t)) _ wr hr.out (fun j hj => by unfold up; rw [if_pos (by omega)])
      rw [bw_str] at hcv
      go_wp2
      go_ret
      exact ⟨rfl, hb.out⟩

set_option maxHeartbeats 1000000 in
theorem rbitsXor_c (s t : ByteArray) (w : World) (hst : s.size = t.size) (hs : s.size ≤ 1000) : Calls Try.prog 47 #[.int .i64 24, .string s, .string t] w fun e w' => e = .returned (.string (S (bitwise rxor (L s) (L t)))) ∧ Below w.heap.size w w' := by
  have hmk := make_c s.size (by omega)
  have hz1 : s.size ≤ t.size := by omega
  clear hst
  go_enter Try.func47, Try.ntmps47
  go_wp2
  go_loopw [8] (fun i wr => ∃ k : Nat, k ≤ s.size ∧ i = .int .i64 k ∧ Hid (Below w.heap.size w wr) ∧ Hid (wr.rowIs w.heap.size 5 s.size (up (bw rxor (L s) (L t)) k))) (fun i _ => s.size - (intOf i).toNat)
  case atStart => exact ⟨0, Nat.zero_le _, rfl, (Below.refl _ _).alloc (by simp) _, made_up _ _ _ _ (by simp)⟩
  case round =>
    obtain ⟨k, hk, rfl, hb, hr⟩ := hrel
    by_cases hlt : k < s.size
    · have hlt2 : k < t.size := by omega
      have hc1 : wr.cell? ⟨w.heap.size, k, none⟩ = some (.int .u8 0) := by rw [hr.out.cell hlt]; simp [up]
      have hf1 : wr.frozen? ⟨w.heap.size, k, none⟩ = false := hr.out.frozen _
      have hkI : (k : Int) < (s.size : Int) := by omega
      have hkJ : (k : Int) < (t.size : Int) := by omega
      go_wp2
      go_region_with (go_at_call 54; refine (rXor_c _ _ _).mono ?_; rintro e w' ⟨rfl, rfl⟩)
      all_goals go_wp2
      all_goals
        go_roundw
        case rel => exact ⟨k + 1, by omega, by go_num, by repeat (first | exact (hb.out.setCell (by simp) _) | refine Below.drew ?_), (hr.out.set k _).congr (fun j _ => up_step _ k _ (by rw [← bw_at _ s t k hlt hlt2]) j)⟩
        case measure => simp [intOf]; omega
    · have hcv := conv_c s.size w.heap.size (bw rxor (L s) (L t)) _ wr hr.out (fun j hj => by unfold up; rw [if_pos (by omega)])
      rw [bw_str] at hcv
      go_wp2
      go_ret
      exact ⟨rfl, hb.out⟩
end Go.Proofs.Ytdacoincdkighaa
