/- Layer 19: the document's reader: a code. -/
import Derived.Test.YtodpljgajjcdoaaGreatDoorHD
namespace Go.Proofs.YtodpljgajjcdoaaGreatDoor
set_option maxRecDepth 100000
open Go.RowKit Lg Nl Go.Maps Wf Vd
set_option linter.unusedVariables false
set_option linter.unusedSimpArgs false

theorem take3_cons (s : ByteArray) (i : Nat) (hi : i < s.size) (h3 : i < 3) : ((L s).take 3).drop i = s[i] :: ((L s).take 3).drop (i + 1) := by
  have hl : i < ((L s).take 3).length := by rw [List.length_take, len_L]; omega
  refine (List.drop_eq_getElem_cons hl).trans (congrArg (· :: ((L s).take 3).drop (i + 1)) ?_)
  rw [List.getElem_take]
  exact L_get s i hi
theorem take3_nil (s : ByteArray) (i : Nat) (h : s.size ≤ i ∨ 3 ≤ i) : ((L s).take 3).drop i = [] := List.drop_of_length_le (by rw [List.length_take, len_L]; omega)
theorem netR_some {l : List UInt8} {m n : Nat} (h : netG 0 0 1 (l.take 3) = some (n : Int)) : netR l m = if l = [] ∨ 3 < l.length ∨ (m : Int) ≤ (n : Int) ∨ codeL n ≠ l then -1 else (n : Int) := by
  unfold netR
  rw [h]
  rfl
theorem netR_none {l : List UInt8} {m : Nat} (h : netG 0 0 1 (l.take 3) = none) : netR l m = -1 := by
  unfold netR
  rw [h]
theorem wrap_nat {z : Nat} (h : z ≤ 9223372036854775807) : wrap64 (z : Int) = (z : Int) := by unfold wrap64; omega
theorem wrap_add {n z : Nat} (h : n + z ≤ 9223372036854775807) : wrap64 ((n : Int) + (z : Int)) = ((n + z : Nat) : Int) := by unfold wrap64; omega
theorem bndN {n k z : Nat} (hn : n ≤ 95 * k) (hk : k ≤ 8836) (hz : z ≤ 94 * k) : z ≤ 9223372036854775807 ∧ n + z ≤ 9223372036854775807 ∧ n + z ≤ 95 * (k * 94) := ⟨by omega, by omega, by omega⟩
theorem k94 {i k : Nat} (h : k = 94 ^ i) (hi : i < 3) : k ≤ 8836 := by
  subst h
  rcases i with _ | _ | _ | i
  · decide
  · decide
  · decide
  · omega
set_option maxHeartbeats 4000000 in
set_option maxRecDepth 1000000 in
theorem rnet_c (s : ByteArray) (m : Nat) (w : World) (hs : s.size ≤ 1048576) (hm : m ≤ 4096) : Calls Tryz.prog 24 #[.string s, .int .i64 m] w fun e w' => e = .returned (.int .i64 (netR (L s) m)) ∧ Below w.heap.size w w' := by
  have HS : Hid (s.size ≤ 1048576) := hs
  have HM : Hid (m ≤ 4096) := hm
  clear hs hm
  go_enter Tryz.func24, Tryz.ntmps24
  go_wp2_with fail
  go_loop [5, 6, 7] (fun s5 s6 s7 => ∃ (i n k : Nat), i ≤ s.size ∧ i ≤ 3 ∧ s5 = .int .i64 n ∧ s6 = .int .i64 k ∧ s7 = .int .i64 i ∧ Hid (netG 0 0 1 ((L s).take 3) = netG i n k (((L s).take 3).drop i)) ∧ Hid (k = 94 ^ i) ∧ Hid (n ≤ 95 * k)) (fun s5 s6 s7 => 3 - (intOf s7).toNat)
  case atStart => exact ⟨0, 0, 1, Nat.zero_le _, Nat.zero_le _, rfl, rfl, rfl, rfl, rfl, by show (0 : Nat) ≤ 95 * 1; decide⟩
  case round =>
    obtain ⟨i, n, k, hi, hi3, rfl, rfl, rfl, HG, HK, HN⟩ := hrel
    by_cases hin : i < s.size ∧ i < 3
    · obtain ⟨hin, h3⟩ := hin
      have i1 : (i : Int) < (s.size : Int) := by omega
      have i3 : (i : Int) < 3 := by omega
      have hlt := UInt8.toNat_lt s[i]
      have hw : wrap64 (s[i].toNat : Int) = (s[i].toNat : Int) := by unfold wrap64; omega
      have hsb : wrap64 ((s[i].toNat : Int) - 33) = (s[i].toNat : Int) - 33 := by unfold wrap64; omega
      have HG2 : Hid (netG 0 0 1 ((L s).take 3) = if s[i].toNat < 33 ∨ 126 < s[i].toNat then none else netG (i + 1) ((n : Int) + ((s[i].toNat : Int) - 33 + (if 0 < i then 1 else 0)) * (k : Int)) ((k : Int) * 94) (((L s).take 3).drop (i + 1))) := by
        show _ = _
        rw [HG.out, take3_cons s i hin h3]
        rfl
      clear HG
      by_cases k1 : s[i].toNat < 33
      · have HE : Hid (netR (L s) m = -1) := netR_none (by rw [HG2.out]; exact if_pos (Or.inl k1))
        have k1' : (s[i].toNat : Int) - 33 < 0 := by omega
        go_wp2
        go_ret
        exact ⟨ret_int HE.out.symm, Below.refl _ _⟩
      by_cases k2 : 126 < s[i].toNat
      · have HE : Hid (netR (L s) m = -1) := netR_none (by rw [HG2.out]; exact if_pos (Or.inr k2))
        have k2' : (s[i].toNat : Int) - 33 > 93 := by omega
        go_wp2
        go_ret
        exact ⟨ret_int HE.out.symm, Below.refl _ _⟩
      obtain ⟨d, hd, hd9⟩ : ∃ d : Nat, (s[i].toNat : Int) - 33 = (d : Int) ∧ d ≤ 93 := ⟨s[i].toNat - 33, by omega, by omega⟩
      have hsd : wrap64 ((s[i].toNat : Int) - 33) = (d : Int) := hsb.trans hd
      clear hsb
      rw [hd] at HG2
      rw [if_neg (by omega)] at HG2
      have hk := k94 HK.out h3
      have hn := HN.out
      have HK2 : Hid (k * 94 = 94 ^ (i + 1)) := by show _ = _; rw [Nat.pow_succ, ← HK.out]
      obtain ⟨k', hk'⟩ : ∃ k', k' = k * 94 := ⟨_, rfl⟩
      rw [← hk'] at HK2
      have hdk : d * k ≤ 93 * k := Nat.mul_le_mul_right k hd9
      have i0 : (0 : Int) ≤ (i : Int) := by omega
      have bk : k' ≤ 9223372036854775807 := by omega
      by_cases hz : i = 0
      · rw [if_neg (by omega)] at HG2
        subst hz
        obtain ⟨z, hzz⟩ : ∃ z, z = d * k := ⟨_, rfl⟩
        rw [← hzz] at hdk
        have bz : z ≤ 9223372036854775807 := by omega
        have bn : n + z ≤ 9223372036854775807 := by omega
        have HN2 : Hid (n + z ≤ 95 * k') := by show _ ≤ _; omega
        have hd0 : (0 : Int) ≤ (d : Int) := by omega
        have hd93 : (d : Int) ≤ 93 := by omega
        clear hn hk hdk hd9 hd hlt k1 k2
        go_upto_region 11 with fail
        have e94 : (k : Int) * 94 = (k' : Int) := by rw [hk', Int.natCast_mul]; rfl
        have e1 : (n : Int) + ((d : Int) + 0) * (k : Int) = ((n + z : Nat) : Int) := by rw [Int.add_zero, hzz, Int.natCast_add, Int.natCast_mul]
        rw [e1, e94] at HG2
        have hk94 : wrap64 ((k : Int) * 94) = (k' : Int) := by rw [e94]; exact wrap_nat bk
        have hmul : wrap64 ((d : Int) * (k : Int)) = (z : Int) := by rw [← Int.natCast_mul, ← hzz]; exact wrap_nat bz
        have hadd : wrap64 ((n : Int) + (z : Int)) = ((n + z : Nat) : Int) := wrap_add bn
        clear e1 hzz hk' e94 bk bz bn
        go_wp2
        go_round
        case rel => exact ⟨1, n + z, k', hin, by decide, by first | rw [hadd] | with_reducible rfl, by first | rw [hk94] | with_reducible rfl, by first | with_reducible rfl | exact wrap_succ hin (Nat.le_trans HS.out (by decide)) | rfl, HG2, HK2, HN2⟩
        case measure => first | exact meas_stepV h3 (by decide) | decide | (show 3 - (((0 : Nat) : Int) + 1).toNat < 3 - ((0 : Nat) : Int).toNat; decide)
      · have hz' : (i : Int) > 0 := by omega
        rw [if_pos (by omega)] at HG2
        obtain ⟨e, he⟩ : ∃ e, e = d + 1 := ⟨_, rfl⟩
        obtain ⟨z, hzz⟩ : ∃ z, z = e * k := ⟨_, rfl⟩
        have hz2 : z ≤ 94 * k := by rw [hzz, he]; exact Nat.mul_le_mul_right k (Nat.succ_le_succ hd9)
        obtain ⟨bz, bn, hN2⟩ := bndN hn hk hz2
        have bd : d + 1 ≤ 9223372036854775807 := Nat.le_trans (Nat.succ_le_succ hd9) (by decide)
        have HN2 : Hid (n + z ≤ 95 * k') := by show _ ≤ _; rw [hk']; exact hN2
        have hd0 : (0 : Int) ≤ (d : Int) := Int.natCast_nonneg d
        have hd93 : (d : Int) ≤ 93 := Int.ofNat_le.2 hd9
        have HZz : Hid (z = e * k) := hzz
        have HKk : Hid (k' = k * 94) := hk'
        have HEe : Hid (e = d + 1) := he
        clear hN2
        have HD1 : Hid (wrap64 ((d : Int) + 1) = (e : Int)) := by show _ = _; rw [he]; exact wrap_add (z := 1) bd
        clear hn hk hdk hd9 hz2 hd hlt k1 k2 hzz hk' he
        go_upto_region 10 with fail
        clear hd0 hd93
        have hd1 := HD1.out
        go_upto_region 11 with fail
        have hzz := HZz.out
        have hk' := HKk.out
        have he := HEe.out
        have e94 : (k : Int) * 94 = (k' : Int) := by rw [hk', Int.natCast_mul]; rfl
        have e1 : (n : Int) + ((d : Int) + 1) * (k : Int) = ((n + z : Nat) : Int) := by rw [hzz, he, Int.natCast_add, Int.natCast_mul, Int.natCast_add]; rfl
        rw [e1, e94] at HG2
        have hk94 : wrap64 ((k : Int) * 94) = (k' : Int) := by rw [e94]; exact wrap_nat bk
        have hmul : wrap64 (((d : Int) + 1) * (k : Int)) = (z : Int) := by rw [show (d : Int) + 1 = (e : Int) from by rw [he]; rfl, ← Int.natCast_mul, ← hzz]; exact wrap_nat bz
        have hadd : wrap64 ((n : Int) + (z : Int)) = ((n + z : Nat) : Int) := wrap_add bn
        clear e1 hzz hk' e94 bk bz bn bd he hd1 hz'
        go_wp2
        go_round
        case rel => exact ⟨i + 1, n + z, k', hin, h3, by first | rw [hadd] | with_reducible rfl, by first | rw [hk94] | with_reducible rfl, by first | with_reducible rfl | exact wrap_succ hin (Nat.le_trans HS.out (by decide)) | rfl, HG2, HK2, HN2⟩
        case measure => first | exact meas_stepV h3 (by decide) | (show 3 - (((i : Int) + 1)).toNat < 3 - ((i : Nat) : Int).toNat; omega)
    · have HE : Hid (netG 0 0 1 ((L s).take 3) = some (n : Int)) := by
        show _ = _
        refine HG.out.trans ?_
        rw [take3_nil s i (by omega)]
        unfold netG
        try rfl
      have HR : Hid (netR (L s) m = if L s = [] ∨ 3 < (L s).length ∨ (m : Int) ≤ (n : Int) ∨ codeL n ≠ L s then -1 else (n : Int)) := netR_some HE.out
      have hends : (¬ (i : Int) < (s.size : Int)) ∨ ((i : Int) < (s.size : Int) ∧ ¬ (i : Int) < 3) := by omega
      clear HE HG HK hin
      have HN2 : Hid (n ≤ 95 * k) := HN
      by_cases h0 : s.size = 0
      · have e0 := emp_yes h0
        have HV : Hid (netR (L s) m = -1) := by show _ = _; rw [HR.out]; exact if_pos (Or.inl (L_nil h0))
        rcases hends with j1 | ⟨j1, j2⟩
        all_goals (
          go_wp2
          all_goals (
            go_ret
            exact ⟨ret_int HV.out.symm, Below.refl _ _⟩))
      have e0 := emp_no h0
      by_cases h3 : 3 < s.size
      · have HV : Hid (netR (L s) m = -1) := by show _ = _; rw [HR.out]; exact if_pos (Or.inr (Or.inl (by rw [len_L]; exact h3)))
        have i3 : (3 : Int) < (s.size : Int) := by omega
        rcases hends with j1 | ⟨j1, j2⟩
        all_goals (
          go_wp2
          all_goals (
            go_ret
            exact ⟨ret_int HV.out.symm, Below.refl _ _⟩))
      have i3 : ¬ (3 : Int) < (s.size : Int) := by omega
      by_cases hnm : m ≤ n
      · have HV : Hid (netR (L s) m = -1) := by show _ = _; rw [HR.out]; exact if_pos (Or.inr (Or.inr (Or.inl (by omega))))
        have i4 : (n : Int) ≥ (m : Int) := by omega
        rcases hends with j1 | ⟨j1, j2⟩
        all_goals (
          go_wp2
          all_goals (
            go_ret
            exact ⟨ret_int HV.out.symm, Below.refl _ _⟩))
      have i4 : ¬ (n : Int) ≥ (m : Int) := by omega
      have HC : Hid (∀ W : World, Calls Tryz.prog 41 #[.int .i64 n] W fun e w' => e = .returned (.string (S (codeL n))) ∧ Below W.heap.size W w') := fun W => rCode_c n W (by have := HM.out; omega)
      by_cases hc : codeL n = L s
      · have HV : Hid (netR (L s) m = (n : Int)) := by
          show _ = _
          rw [HR.out]
          refine if_neg ?_
          rintro (h | h | h | h)
          · exact h0 (by rw [← len_L, h]; rfl)
          · rw [len_L] at h; exact h3 h
          · omega
          · exact h hc
        have ec : ((S (codeL n)).toList == s.toList) = true := by rw [beq_iff_eq, toL, toL, L_S, hc]
        clear hc HR h0 h3 hnm
        rcases hends with j1 | ⟨j1, j2⟩
        all_goals (
          go_wp2_with (first
            | (go_at_call 41; refine (HC.out _).mono ?_; rintro e w1 ⟨rfl, hb1⟩))
          all_goals (
            go_ret
            exact ⟨ret_int HV.out.symm, hb1⟩))
      · have HV : Hid (netR (L s) m = -1) := by
          show _ = _
          rw [HR.out]
          exact if_pos (Or.inr (Or.inr (Or.inr hc)))
        have ec : ((S (codeL n)).toList == s.toList) = false := by rw [beq_eq_false_iff_ne, toL, toL, L_S]; exact hc
        clear hc HR h0 h3 hnm
        rcases hends with j1 | ⟨j1, j2⟩
        all_goals (
          go_wp2_with (first
            | (go_at_call 41; refine (HC.out _).mono ?_; rintro e w1 ⟨rfl, hb1⟩))
          all_goals (
            go_ret
            exact ⟨ret_int HV.out.symm, hb1⟩))
end Go.Proofs.YtodpljgajjcdoaaGreatDoor
