/- Layer 1: numbers as vectors. -/
import Derived.Test.YtdacoincdkighaaWM
namespace Go.Proofs.Ytdacoincdkighaa
open Go.RowKit Lg
set_option linter.unusedVariables false

theorem ofBit_nat (n w k i m : Nat) (hk : k < w) (hi : i = w - 1 - k) (hm : m = n / 2 ^ k) : ((ofBit n w i).toNat : Int) = 48 + ((m : Nat) : Int) % 2 := by
  have e : w - 1 - i = k := by omega
  unfold ofBit
  rw [e, ← hm]
  by_cases h : m % 2 = 1
  · rw [if_pos h]; have : ((49 : UInt8).toNat : Int) = 49 := rfl; omega
  · rw [if_neg h]; have : ((48 : UInt8).toNat : Int) = 48 := rfl; omega
theorem half_step (n k m : Nat) (hm : m = n / 2 ^ k) : m / 2 = n / 2 ^ (k + 1) := by
  rw [hm, Nat.pow_succ, Nat.div_div_eq_div_mul]

set_option maxHeartbeats 1000000 in
theorem Of_c (n wd : Int) (w : World) (hn1 : n ≤ 9223372036854775807) : Calls Try.prog 35 #[.int .i64 n, .int .i64 wd] w fun e w' => e = .returned (.tuple #[.string (S (ofA n wd)), .int .i64 (ofE n wd)]) ∧ Below w.heap.size w w' := by
  by_cases hb : n < 0 ∨ wd < 1 ∨ 256 < wd
  · have HK : Hid (ofA n wd = [] ∧ ofE n wd = 1) := by unfold ofA ofE; rw [if_pos hb, if_pos hb]; exact ⟨rfl, rfl⟩
    by_cases c1 : n < 0
    · go_enter Try.func35, Try.ntmps35
      go_wp2
      go_ret2
      exact ⟨tup2 HK.out, Below.refl _ _⟩
    · have hw : widB wd = false := by unfold widB; simp; omega
      clear hb
      go_enter Try.func35, Try.ntmps35
      go_wp2_with (go_at_call 58; refine (width_c _ _).mono ?_; rintro e w1 ⟨rfl, rfl⟩)
      go_ret2
      exact ⟨tup2 HK.out, Below.refl _ _⟩
  · obtain ⟨N, rfl⟩ := Int.eq_ofNat_of_zero_le (show 0 ≤ n by omega)
    obtain ⟨W, rfl⟩ := Int.eq_ofNat_of_zero_le (show 0 ≤ wd by omega)
    have HK : Hid (ofA N W = ofL N W ∧ ofE N W = 0) := by unfold ofA ofE; rw [if_neg hb, if_neg hb]; exact ⟨rfl, rfl⟩
    have hW1 : 1 ≤ W := by omega
    have hW2 : W ≤ 256 := by omega
    have hw : widB W = true := by unfold widB; simp; omega
    have hmk := make_c W (by omega)
    clear hb
    go_enter Try.func35, Try.ntmps35
    go_wp2_with (go_at_call 58; refine (width_c _ _).mono ?_; rintro e w1 ⟨rfl, hw1⟩; have hw2 := hw1.symm; subst hw2)
    go_loopw [0, 18] (fun nv i wr => ∃ k m : Nat, k ≤ W ∧ i = .int .i64 k ∧ nv = .int .i64 m ∧ m ≤ 9223372036854775807 ∧ Hid (m = N / 2 ^ k) ∧ Hid (Below w.heap.size w wr) ∧ Hid (wr.rowIs w.heap.size 5 W (down W (ofBit N W) k))) (fun _ i _ => W - (intOf i).toNat)
    case atStart => exact ⟨0, N, Nat.zero_le _, rfl, rfl, by omega, by simp [Hid], (Below.refl _ _).alloc (by simp) _, made_down _ _ _ _ (by simp)⟩
    case round =>
      obtain ⟨k, m, hk, rfl, rfl, hm, HM, hb, hr⟩ := hrel
      by_cases hlt : k < W
      · obtain ⟨i, hi⟩ : ∃ i, W = i + 1 + k := ⟨W - 1 - k, by omega⟩
        have hi1 : i < W := by omega
        have hi2 : (i : Int) < (W : Int) := by omega
        have e1 : (W : Int) - 1 - (k : Int) = (i : Int) := by omega
        have hc1 : wr.cell? ⟨w.heap.size, i, none⟩ = some (.int .u8 0) := by rw [hr.out.cell hi1]; unfold down; rw [if_neg (by omega)]
        have hf1 : wr.frozen? ⟨w.heap.size, i, none⟩ = false := hr.out.frozen _
        have HI : Hid (W = i + 1 + k) := hi
        clear hi
        go_wp2
        go_roundw
        case rel =>
          refine ⟨k + 1, m / 2, by omega, by go_num, by go_num, by omega, half_step N k m HM.out, hb.out.setCell (by simp) _, ?_⟩
          refine World.rowIs.congr (World.rowIs.set hr.out i _) (fun j _ => down_step _ _ k i hlt (by have := HI.out; omega) _ ?_ j)
          rw [ofBit_nat N W k i m hlt (by have := HI.out; omega) HM.out, i64_and1]; congr 1; omega
        case measure => simp [intOf]; omega
      · have hcv := conv_c W w.heap.size (ofBit N W) _ wr hr.out (fun j hj => by unfold down; rw [if_pos (by omega)])
        go_wp2
        go_ret2
        exact ⟨tup2 HK.out, hb.out⟩

set_option maxHeartbeats 1000000 in
theorem rOf_c (N W : Nat) (w : World) (hN : N ≤ 9223372036854775807) (hW1 : 1 ≤ W) (hW2 : W ≤ 256) : Calls Try.prog 36 #[.int .i64 N, .int .i64 W] w fun e w' => e = .returned (.string (S (ofL N W))) ∧ Below w.heap.size w w' := by
  have hmk := make_c W (by omega)
  go_enter Try.func36, Try.ntmps36
  go_wp2
  go_loopw [0, 6] (fun nv i wr => ∃ k m : Nat, k ≤ W ∧ i = .int .i64 ((W : Int) - 1 - k) ∧ nv = .int .i64 m ∧ m ≤ 9223372036854775807 ∧ Hid (m = N / 2 ^ k) ∧ Hid (Below w.heap.size w wr) ∧ Hid (wr.rowIs w.heap.size 5 W (down W (ofBit N W) k))) (fun _ i _ => (intOf i + 1).toNat)
  case atStart => exact ⟨0, N, Nat.zero_le _, by go_num, rfl, by omega, by simp [Hid], (Below.refl _ _).alloc (by simp) _, made_down _ _ _ _ (by simp)⟩
  case round =>
    obtain ⟨k, m, hk, rfl, rfl, hm, HM, hb, hr⟩ := hrel
    by_cases hlt : k < W
    · obtain ⟨i, hi⟩ : ∃ i, W = i + 1 + k := ⟨W - 1 - k, by omega⟩
      have hi1 : i < W := by omega
      have hi2 : (i : Int) < (W : Int) := by omega
      have e1 : (W : Int) - 1 - (k : Int) = (i : Int) := by omega
      have hc1 : wr.cell? ⟨w.heap.size, i, none⟩ = some (.int .u8 0) := by rw [hr.out.cell hi1]; unfold down; rw [if_neg (by omega)]
      have hf1 : wr.frozen? ⟨w.heap.size, i, none⟩ = false := hr.out.frozen _
      have HI : Hid (W = i + 1 + k) := hi
      clear hi
      rw [e1]
      go_wp2
      go_roundw
      case rel =>
        refine ⟨k + 1, m / 2, by omega, by go_num, by go_num, by omega, half_step N k m HM.out, hb.out.setCell (by simp) _, ?_⟩
        refine World.rowIs.congr (World.rowIs.set hr.out i _) (fun j _ => down_step _ _ k i hlt (by have := HI.out; omega) _ ?_ j)
        rw [ofBit_nat N W k i m hlt (by have := HI.out; omega) HM.out]
      case measure => simp [intOf] <;> omega
    · have hcv := conv_c W w.heap.size (ofBit N W) _ wr hr.out (fun j hj => by unfold down; rw [if_pos (by omega)])
      have e2 : (W : Int) - 1 - (k : Int) = -1 := by omega
      rw [e2]
      go_wp2
      go_ret
      exact ⟨ret_str rfl, hb.out⟩
end Go.Proofs.Ytdacoincdkighaa
