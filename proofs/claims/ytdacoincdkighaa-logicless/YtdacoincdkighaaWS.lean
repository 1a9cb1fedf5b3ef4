/- The reference of layer 1: sums, numbers, shifts. -/
import Derived.Test.YtdacoincdkighaaWP
namespace Go.Proofs.Ytdacoincdkighaa
open Go.RowKit Lg
set_option linter.unusedVariables false

theorem kno_at (s : ByteArray) (h : kno (L s) = true) (i : Nat) (hi : i < s.size) : (s[i] = 48 ∧ pn ((s[i].toNat : Nat) : Int) = 0) ∨ (s[i] = 49 ∧ pn ((s[i].toNat : Nat) : Int) = 1) := by
  unfold kno at h; rw [List.all_eq_true] at h
  have := h s[i] (by rw [← L_get s i hi]; exact List.getElem_mem _)
  simp only [knoB, Bool.or_eq_true, beq_iff_eq] at this
  rcases this with e | e <;> rw [e]
  · exact .inl ⟨rfl, rfl⟩
  · exact .inr ⟨rfl, rfl⟩

set_option maxHeartbeats 4000000 in
theorem rsum_c (s t : ByteArray) (c : Nat) (w : World) (hst : s.size = t.size) (hs : s.size ≤ 1000) (hc : c ≤ 1) (h1 : kno (L s) = true) (h2 : kno (L t) = true) :
    Calls Try.prog 49 #[.string s, .string t, .int .i64 c] w fun e w' => e = .returned (.string (S (sumL (L s) (L t) c))) ∧ Below w.heap.size w w' := by
  have hmk := make_c s.size (by omega)
  have hz1 : s.size ≤ t.size := by omega
  have K1 : Hid _ := h1
  have K2 : Hid _ := h2
  clear hst h1 h2
  go_enter Try.func49, Try.ntmps49
  go_wp2
  go_loopw [2, 8] (fun cv i wr => ∃ k d : Nat, k ≤ s.size ∧ i = .int .i64 ((s.size : Int) - 1 - k) ∧ cv = .int .i64 d ∧ d ≤ 1 ∧ Hid (d = car (L s) (L t) c k) ∧ Hid (Below w.heap.size w wr) ∧ Hid (wr.rowIs w.heap.size 5 s.size (down s.size (sumBit (L s) (L t) c) k))) (fun _ i _ => (intOf i + 1).toNat)
  case atStart => exact ⟨0, c, Nat.zero_le _, by go_num, rfl, by omega, rfl, (Below.refl _ _).alloc (by simp) _, made_down _ _ _ _ (by simp)⟩
  case round =>
    obtain ⟨k, d, hk, rfl, rfl, hd, HD, hb, hr⟩ := hrel
    by_cases hlt : k < s.size
    · obtain ⟨i, hi⟩ : ∃ i, s.size = i + 1 + k := ⟨s.size - 1 - k, by omega⟩
      have hi1 : i < s.size := by omega
      have hi2 : i < t.size := by omega
      have e1 : (s.size : Int) - 1 - (k : Int) = (i : Int) := by omega
      have hc1 : wr.cell? ⟨w.heap.size, i, none⟩ = some (.int .u8 0) := by rw [hr.out.cell hi1]; unfold down; rw [if_neg (by omega)]
      have hf1 : wr.frozen? ⟨w.heap.size, i, none⟩ = false := hr.out.frozen _
      have hkI : (i : Int) < (s.size : Int) := by omega
      have hkJ : (i : Int) < (t.size : Int) := by omega
      have CA : Hid _ := car_at s t c k i d hi hi1 hi2 HD.out
      have SU : Hid _ := sumN_at s t c k i d hi hi1 hi2 HD.out
      have HI : Hid (s.size = i + 1 + k) := hi
      clear hi
      rw [e1]
      rcases kno_at s K1.out i hi1 with ⟨a1, p1⟩ | ⟨a1, p1⟩ <;> rcases kno_at t K2.out i hi2 with ⟨a2, p2⟩ | ⟨a2, p2⟩ <;> rcases (show d = 0 ∨ d = 1 by omega) with rfl | rfl
      all_goals
        rw [p1, p2] at CA SU
        have q1 : ((s[i].toNat : Nat) : Int) = _ := congrArg (fun c : UInt8 => ((c.toNat : Nat) : Int)) a1
        have q2 : ((t[i].toNat : Nat) : Int) = _ := congrArg (fun c : UInt8 => ((c.toNat : Nat) : Int)) a2
        simp only [c48, c49] at q1 q2
        clear a1 a2 p1 p2
        go_wp2
        go_quiet (fail)
        go_wp2
        go_roundw
        case rel =>
          refine ⟨k + 1, _, by omega, by go_num, rfl, ?_, CA.out.symm, (below_drewN hb.out _).setCell (by simp) _, ?_⟩
          · decide
          refine World.rowIs.congr (World.rowIs.set (w := wr.drewN _) hr.out i _) (fun j _ => down_step _ _ k i hlt (by have := HI.out; omega) _ ?_ j)
          rw [sumBit_nat, SU.out]; rfl
        case measure => simp [intOf] <;> omega
    · have hcv := conv_c s.size w.heap.size (sumBit (L s) (L t) c) _ wr hr.out (fun j hj => by unfold down; rw [if_pos (by omega)])
      have e2 : (s.size : Int) - 1 - (k : Int) = -1 := by omega
      rw [e2]
      go_wp2
      go_ret
      exact ⟨ret_str (by unfold sumL; rw [len_L]), hb.out⟩
end Go.Proofs.Ytdacoincdkighaa
