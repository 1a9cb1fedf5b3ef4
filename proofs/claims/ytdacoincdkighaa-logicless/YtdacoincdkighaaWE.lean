/- Layer 1: turned, numbers, sums. -/
import Derived.Test.YtdacoincdkighaaWD
import Derived.Test.YtdacoincdkighaaMath2
import Derived.Laws.Bits128
namespace Go.Proofs.Ytdacoincdkighaa
open Go.RowKit Lg
set_option linter.unusedVariables false

set_option maxHeartbeats 400000 in
theorem turned_c (s : ByteArray) (w : World) (hs : s.size ≤ 1000) : Calls Try.prog 69 #[.string s] w fun e w' => e = .returned (.string (S (turnL (L s)))) ∧ Below w.heap.size w w' := by
  go_enter Try.func69, Try.ntmps69
  go_wp2_with fail
  refine (tableXor_c _).mono ?_
  rintro e w1 ⟨rfl, hb1⟩
  unfold tXor
  go_wp2_with fail
  refine (same_c 49 s.size _ (by omega)).mono ?_
  rintro e w2 ⟨rfl, hb2⟩
  go_wp2_with fail
  refine (eachBit_c _ _ _ _ _ tabXor s _ _ (by rw [size_S, len_rep]) hs).mono ?_
  rintro e w3 ⟨rfl, hb3⟩
  go_wp2
  go_ret
  exact ⟨ret_str (by rw [L_S, turn_xor _ _ (len_L s).symm]), hb1.trans ((hb2.mono hb1.size).trans (hb3.mono (Nat.le_trans hb1.size hb2.size)))⟩

set_option maxHeartbeats 400000 in
theorem upTo_c (s : ByteArray) (m : Nat) (w : World) (hs : s.size ≤ maxLen) (hm : 1 ≤ m) (hm2 : m ≤ 2147483648) : Calls Try.prog 62 #[.string s, .int .i64 m] w fun e w' => e = .returned (.int .i64 (upToN (L s) m)) ∧ w' = w := by
  unfold maxLen at hs
  go_enter Try.func62, Try.ntmps62
  go_wp2
  go_loop [5, 9] (fun nv i => ∃ k n : Nat, k ≤ s.size ∧ i = .int .i64 k ∧ nv = .int .i64 n ∧ n < m ∧ Hid (n = num ((L s).take k))) (fun _ i => s.size - (intOf i).toNat)
  case atStart => exact ⟨0, 0, Nat.zero_le _, rfl, rfl, by omega, rfl⟩
  case round =>
    obtain ⟨k, n, hk, rfl, rfl, hn, HN⟩ := hrel
    by_cases hlt : k < s.size
    · have hp2 : pn ((s[k].toNat : Nat) : Int) < 4 := pn_lt _
      have hstep : num ((L s).take (k + 1)) = 2 * n + pn ((s[k].toNat : Nat) : Int) := by rw [take_snoc s k hlt, num_snoc, ← HN.out, pn_plc]
      have hle := num_take_le (L s) (k + 1)
      rw [hstep] at hle
      have HS : Hid (num ((L s).take (k + 1)) = 2 * n + pn ((s[k].toNat : Nat) : Int)) := hstep
      have HL : Hid (2 * n + pn ((s[k].toNat : Nat) : Int) ≤ num (L s)) := hle
      clear hstep hle
      go_wp2_with (go_at_call 74; refine (place_c _ _).mono ?_; rintro e w' ⟨rfl, rfl⟩)
      all_goals first
        | (go_round
           case rel => exact ⟨k + 1, 2 * n + pn ((s[k].toNat : Nat) : Int), by omega, by go_num, by go_num, by omega, HS.out.symm⟩
           case measure => simp [intOf]; omega)
        | (go_ret; exact ⟨ret_int (by have := HL.out; unfold upToN; rw [if_pos (by omega)]), rfl⟩)
    · go_wp2
      go_ret
      exact ⟨ret_int (by have := HN.out; rw [take_all s k (by omega)] at this; unfold upToN; rw [if_neg (by omega), this]), rfl⟩

theorem i64_and1 (n : Int) : bits .and .i64 n 1 = n % 2 := by
  have h1 : (BitVec.ofInt 64 1).toNat = 2 ^ 1 - 1 := by decide
  have key : (BitVec.ofInt 64 n &&& BitVec.ofInt 64 1).toNat = (n % ((2 ^ 64 : Nat) : Int)).toNat % 2 ^ 1 := by
    rw [BitVec.toNat_and, BitVec.toNat_ofInt, h1, Nat.and_two_pow_sub_one_eq_mod]
  show IntKind.i64.wrap ((BitVec.ofInt 64 n &&& BitVec.ofInt 64 1).toNat : Nat) = n % 2
  rw [key, IntKind.wrap_i64]
  omega
theorem sumN_at (s t : ByteArray) (c k i d : Nat) (hi : s.size = i + 1 + k) (hi1 : i < s.size) (hi2 : i < t.size) (hd : d = car (L s) (L t) c k) : sumN (L s) (L t) c i = d + pn ((s[i].toNat : Nat) : Int) + pn ((t[i].toNat : Nat) : Int) := by
  unfold sumN
  rw [len_L, show s.size - 1 - i = k by omega, ← hd, pn_plc, pn_plc, at_getD, at_getD]
theorem car_at (s t : ByteArray) (c k i d : Nat) (hi : s.size = i + 1 + k) (hi1 : i < s.size) (hi2 : i < t.size) (hd : d = car (L s) (L t) c k) : car (L s) (L t) c (k + 1) = (d + pn ((s[i].toNat : Nat) : Int) + pn ((t[i].toNat : Nat) : Int)) / 2 := by
  rw [← sumN_at s t c k i d hi hi1 hi2 hd]
  unfold sumN
  rw [len_L, show s.size - 1 - i = k by omega]
  simp only [car]
  rw [len_L, show s.size - 1 - k = i by omega]
theorem sumBit_nat (a b : List UInt8) (c i : Nat) : ((sumBit a b c i).toNat : Int) = 48 + ((sumN a b c i : Nat) : Int) % 2 := by
  unfold sumBit
  by_cases h : sumN a b c i % 2 = 1
  · rw [if_pos h]; have : ((49 : UInt8).toNat : Int) = 49 := rfl; omega
  · rw [if_neg h]; have : ((48 : UInt8).toNat : Int) = 48 := rfl; omega

set_option maxHeartbeats 1000000 in
theorem sum_c (s t : ByteArray) (c : Nat) (w : World) (hst : s.size = t.size) (hs : s.size ≤ 1000) (hc : c ≤ 1) :
    Calls Try.prog 77 #[.string s, .string t, .int .i64 c] w fun e w' => e = .returned (.string (S (sumL (L s) (L t) c))) ∧ Below w.heap.size w w' := by
  have hmk := make_c s.size (by omega)
  have HST : Hid (s.size = t.size) := hst
  have hz1 : s.size ≤ t.size := by omega
  clear hst
  go_enter Try.func77, Try.ntmps77
  go_wp2
  go_loopw [2, 16] (fun cv i wr => ∃ k d : Nat, k ≤ s.size ∧ i = .int .i64 k ∧ cv = .int .i64 d ∧ d ≤ 6 ∧ Hid (d = car (L s) (L t) c k) ∧ Hid (Below w.heap.size w wr) ∧ Hid (wr.rowIs w.heap.size 5 s.size (down s.size (sumBit (L s) (L t) c) k))) (fun _ i _ => s.size - (intOf i).toNat)
  case atStart => exact ⟨0, c, Nat.zero_le _, rfl, rfl, by omega, rfl, (Below.refl _ _).alloc (by simp) _, made_down _ _ _ _ (by simp)⟩
  case round =>
    obtain ⟨k, d, hk, rfl, rfl, hd, HD, hb, hr⟩ := hrel
    by_cases hlt : k < s.size
    · obtain ⟨i, hi⟩ : ∃ i, s.size = i + 1 + k := ⟨s.size - 1 - k, by omega⟩
      have hi1 : i < s.size := by omega
      have hi2 : i < t.size := by omega
      have e1 : (s.size : Int) - 1 - (k : Int) = (i : Int) := by omega
      have hp1 : pn ((s[i].toNat : Nat) : Int) < 4 := pn_lt _
      have hp2 : pn ((t[i].toNat : Nat) : Int) < 4 := pn_lt _
      have hc1 : wr.cell? ⟨w.heap.size, i, none⟩ = some (.int .u8 0) := by rw [hr.out.cell hi1]; unfold down; rw [if_neg (by omega)]
      have hf1 : wr.frozen? ⟨w.heap.size, i, none⟩ = false := hr.out.frozen _
      have hkI : (i : Int) < (s.size : Int) := by omega
      have hkJ : (i : Int) < (t.size : Int) := by omega
      have HI : Hid (s.size = i + 1 + k) := hi
      clear hi
      go_wp2
      go_quiet ((go_at_call 74; exact Calls.quiet_of_same (place_c _ _)))
      go_wp2
      go_roundw
      case rel =>
        have hca := car_at s t c k i d HI.out hi1 hi2 HD.out
        have hsu := sumN_at s t c k i d HI.out hi1 hi2 HD.out
        refine ⟨k + 1, (d + pn ((s[i].toNat : Nat) : Int) + pn ((t[i].toNat : Nat) : Int)) / 2, by omega, by go_num, by go_num, by omega, hca.symm, (below_drewN hb.out nq).setCell (by simp) _, ?_⟩
        refine World.rowIs.congr (World.rowIs.set (w := wr.drewN nq) hr.out i _) (fun j _ => down_step _ _ k i hlt (by have := HI.out; omega) _ ?_ j)
        rw [sumBit_nat, hsu, i64_and1]; congr 1; omega
      case measure => simp [intOf]; omega
    · have hcv := conv_c s.size w.heap.size (sumBit (L s) (L t) c) _ wr hr.out (fun j hj => by unfold down; rw [if_pos (by omega)])
      go_wp2
      go_ret
      exact ⟨ret_str (by unfold sumL; rw [len_L]), hb.out⟩
end Go.Proofs.Ytdacoincdkighaa
