/- Layer 19: the document's reader: a number, a code. -/
import Derived.Test.YtodpljgajjcdoaaGreatDoorHA
import Derived.Test.YtodpljgajjcdoaaGreatDoorDF
namespace Go.Proofs.YtodpljgajjcdoaaGreatDoor
set_option maxRecDepth 100000
open Go.RowKit Lg Nl Go.Maps Wf Vd
set_option linter.unusedVariables false
set_option linter.unusedSimpArgs false

theorem drop_cons (s : ByteArray) (i : Nat) (hi : i < s.size) : (L s).drop i = s[i] :: (L s).drop (i + 1) := by
  have hl : i < (L s).length := by rw [len_L]; exact hi
  exact (List.drop_eq_getElem_cons hl).trans (congrArg (· :: (L s).drop (i + 1)) (L_get s i hi))
theorem numR_1 {l : List UInt8} (h : l = [] ∨ 19 < l.length ∨ (1 < l.length ∧ l.head? = some 48)) : numR l = -1 := if_pos h
theorem numR_2 {l : List UInt8} (h : ¬ (l = [] ∨ 19 < l.length ∨ (1 < l.length ∧ l.head? = some 48))) : numR l = numG 0 l := if_neg h
theorem L_nil {s : ByteArray} (h : s.size = 0) : L s = [] := List.eq_nil_of_length_eq_zero (by rw [len_L]; exact h)
theorem L_head {s : ByteArray} (h : 0 < s.size) : (L s).head? = some s[0] := by
  have := drop_cons s 0 h
  rw [List.drop_zero] at this
  rw [this]; rfl
theorem meas_stepV {j n : Nat} (h : j < n) (hn : n ≤ 140737488355328) : n - (intOf (Value.int .i64 (wrap64 ((j : Int) + 1)))).toNat < n - (intOf (Value.int .i64 (j : Int))).toNat := by
  rw [show wrap64 ((j : Int) + 1) = ((j + 1 : Nat) : Int) from by unfold wrap64; omega]
  show n - ((j + 1 : Nat) : Int).toNat < n - ((j : Nat) : Int).toNat
  omega
set_option maxHeartbeats 4000000 in
set_option maxRecDepth 1000000 in
theorem rnum_c (s : ByteArray) (w : World) (hs : s.size ≤ 1048576) : Calls Tryz.prog 13 #[.string s] w fun e w' => e = .returned (.int .i64 (numR (L s))) ∧ w' = w := by
  by_cases h0 : s.size = 0
  · have e0 := emp_yes h0
    have HV : Hid (numR (L s) = -1) := numR_1 (Or.inl (L_nil h0))
    go_enter Tryz.func13, Tryz.ntmps13
    go_wp2
    go_ret
    exact ⟨ret_int HV.out.symm, rfl⟩
  have e0 := emp_no h0
  by_cases h1 : 19 < s.size
  · have HV : Hid (numR (L s) = -1) := numR_1 (Or.inr (Or.inl (by rw [len_L]; exact h1)))
    have i1 : (19 : Int) < (s.size : Int) := by omega
    have d1 : decide ((s.size : Int) > 19) = true := decide_eq_true i1
    go_enter Tryz.func13, Tryz.ntmps13
    go_wp2
    go_ret
    exact ⟨ret_int HV.out.symm, rfl⟩
  have i1 : ¬ (19 : Int) < (s.size : Int) := by omega
  by_cases h2 : 1 < s.size ∧ ∃ h : 0 < s.size, s[0] = 48
  · obtain ⟨h3, h4, h5⟩ := h2
    have HV : Hid (numR (L s) = -1) := numR_1 (Or.inr (Or.inr ⟨by rw [len_L]; exact h3, by rw [L_head h4, h5]⟩))
    have i2 : (1 : Int) < (s.size : Int) := by omega
    have hb : (s[0].toNat : Int) = 48 := by rw [h5]; rfl
    go_enter Tryz.func13, Tryz.ntmps13
    go_wp2
    go_ret
    exact ⟨ret_int HV.out.symm, rfl⟩
  have HV : Hid (numR (L s) = numG 0 (L s)) := numR_2 (by
    rintro (h | h | ⟨h, h'⟩)
    · exact h0 (by rw [← len_L, h]; rfl)
    · rw [len_L] at h; exact h1 h
    · rw [len_L] at h
      have hp : 0 < s.size := by omega
      rw [L_head hp] at h'
      injection h' with h'
      exact h2 ⟨h, hp, h'⟩)
  have HS : Hid (s.size ≤ 1048576) := hs
  have hways : (¬ (1 : Int) < (s.size : Int)) ∨ ((1 : Int) < (s.size : Int) ∧ ∃ h : 0 < s.size, ¬ (s[0].toNat : Int) = 48) := by
    by_cases h : 1 < s.size
    · right
      have hp : 0 < s.size := by omega
      exact ⟨by omega, hp, fun e => h2 ⟨h, hp, UInt8.toNat_inj.1 (by have : ((48 : UInt8).toNat) = 48 := rfl; omega)⟩⟩
    · left; omega
  have hpos : 0 < s.size := by omega
  clear hs h1 h2 h0
  rcases hways with j1 | ⟨j1, hp, j2⟩
  all_goals (
    go_enter Tryz.func13, Tryz.ntmps13
    go_wp2
    go_loop [3, 4] (fun s3 s4 => ∃ (i : Nat) (n : Int), i ≤ s.size ∧ s3 = .int .i64 n ∧ s4 = .int .i64 i ∧ Hid (numG 0 (L s) = numG n ((L s).drop i)) ∧ Hid (0 ≤ n ∧ n ≤ 4611686018427387909)) (fun s3 s4 => s.size - (intOf s4).toNat)
    case atStart => exact ⟨0, 0, Nat.zero_le _, rfl, rfl, rfl, ⟨by decide, by decide⟩⟩
    case round =>
      obtain ⟨i, n, hi, rfl, rfl, HG, HN⟩ := hrel
      by_cases hin : i < s.size
      · have i3 : (i : Int) < (s.size : Int) := by omega
        have HG2 : Hid (numG 0 (L s) = if s[i].toNat < 48 ∨ 57 < s[i].toNat ∨ 461168601842738790 < n then -1 else numG (10 * n + ((s[i].toNat : Int) - 48)) ((L s).drop (i + 1))) := by
          show _ = _
          rw [HG.out, drop_cons s i hin]
          rfl
        clear HG
        have hlt := UInt8.toNat_lt s[i]
        by_cases k1 : (s[i].toNat : Int) < 48
        · have HE : Hid (numR (L s) = -1) := by show _ = _; rw [HV.out, HG2.out]; exact if_pos (Or.inl (by omega))
          go_wp2
          go_ret
          exact ⟨ret_int HE.out.symm, rfl⟩
        by_cases k2 : (s[i].toNat : Int) > 57
        · have HE : Hid (numR (L s) = -1) := by show _ = _; rw [HV.out, HG2.out]; exact if_pos (Or.inr (Or.inl (by omega)))
          go_wp2
          go_ret
          exact ⟨ret_int HE.out.symm, rfl⟩
        by_cases k3 : n > 461168601842738790
        · have HE : Hid (numR (L s) = -1) := by show _ = _; rw [HV.out, HG2.out]; exact if_pos (Or.inr (Or.inr (by omega)))
          go_wp2
          go_ret
          exact ⟨ret_int HE.out.symm, rfl⟩
        have HE : Hid (numG 0 (L s) = numG (10 * n + ((s[i].toNat : Int) - 48)) ((L s).drop (i + 1))) := by show _ = _; rw [HG2.out]; exact if_neg (by omega)
        have hv : wrap64 (wrap64 (10 * n) + ((s[i].toNat : Int) - 48)) = 10 * n + ((s[i].toNat : Int) - 48) := by
          have hn := HN.out
          unfold wrap64; omega
        have HN2 : Hid (0 ≤ 10 * n + ((s[i].toNat : Int) - 48) ∧ 10 * n + ((s[i].toNat : Int) - 48) ≤ 4611686018427387909) := by
          have hn := HN.out
          exact ⟨by omega, by omega⟩
        go_wp2
        go_round
        case rel => exact ⟨i + 1, _, hin, by first | rfl | rw [hv], by first | rfl | exact wrap_succ hin (Nat.le_trans HS.out (by decide)), HE, HN2⟩
        case measure =>
          first
          | exact meas_stepV hin (Nat.le_trans HS.out (by decide))
          | (show s.size - (((i : Int) + 1)).toNat < s.size - ((i : Nat) : Int).toNat; omega)
      · obtain rfl : i = s.size := by omega
        have HE : Hid (numR (L s) = n) := by
          show _ = _
          rw [HV.out, HG.out, List.drop_of_length_le (by rw [len_L]; exact Nat.le_refl _)]
          rfl
        go_wp2
        go_ret
        exact ⟨ret_int HE.out.symm, rfl⟩)
end Go.Proofs.YtodpljgajjcdoaaGreatDoor
