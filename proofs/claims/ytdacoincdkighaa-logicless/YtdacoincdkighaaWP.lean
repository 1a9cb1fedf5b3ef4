/- The reference of layer 1: bits. -/
import Derived.Test.YtdacoincdkighaaWN
import Derived.Test.YtdacoincdkighaaMath5
namespace Go.Proofs.Ytdacoincdkighaa
open Go.RowKit Lg
set_option linter.unusedVariables false

theorem ret_u8 {a : Int} {b : UInt8} (h : (b.toNat : Int) = a) : Ending.returned (.int .u8 a) = .returned (.int .u8 (b.toNat : Int)) := by rw [h]
theorem c48 : (((48 : UInt8).toNat : Nat) : Int) = 48 := rfl
theorem c49 : (((49 : UInt8).toNat : Nat) : Int) = 49 := rfl
theorem c120 : (((120 : UInt8).toNat : Nat) : Int) = 120 := rfl

set_option maxHeartbeats 400000 in
theorem rAnd_c (a b : UInt8) (w : World) : Calls Try.prog 44 #[.int .u8 a.toNat, .int .u8 b.toNat] w fun e w' => e = .returned (.int .u8 (band a b).toNat) ∧ w' = w := by
  go_enter Try.func44, Try.ntmps44
  go_wp2
  all_goals (go_ret; refine ⟨ret_u8 ?_, rfl⟩; unfold band; simp only [← i48, ← i49]; simp_all)
set_option maxHeartbeats 400000 in
theorem rNot_c (a : UInt8) (w : World) : Calls Try.prog 52 #[.int .u8 a.toNat] w fun e w' => e = .returned (.int .u8 (bnot a).toNat) ∧ w' = w := by
  go_enter Try.func52, Try.ntmps52
  go_wp2
  all_goals (go_ret; refine ⟨ret_u8 ?_, rfl⟩; unfold bnot; simp only [← i48, ← i49]; simp_all)
set_option maxHeartbeats 400000 in
theorem rbit_c (a : UInt8) (w : World) : Calls Try.prog 53 #[.int .u8 a.toNat] w fun e w' => e = .returned (.int .u8 (bz a).toNat) ∧ w' = w := by
  go_enter Try.func53, Try.ntmps53
  go_wp2
  all_goals (go_ret; refine ⟨ret_u8 ?_, rfl⟩; unfold bz; simp only [← i122]; simp_all)
set_option maxHeartbeats 400000 in
theorem rOr_c (a b : UInt8) (w : World) : Calls Try.prog 45 #[.int .u8 a.toNat, .int .u8 b.toNat] w fun e w' => e = .returned (.int .u8 (bor a b).toNat) ∧ w' = w := by
  go_enter Try.func45, Try.ntmps45
  go_wp2_with (first | (go_at_call 52; refine (rNot_c _ _).mono ?_; rintro e w1 ⟨rfl, rfl⟩) | (go_at_call 44; refine (rAnd_c _ _ _).mono ?_; rintro e w1 ⟨rfl, rfl⟩))
  go_ret
  exact ⟨ret_u8 (by rw [← bor_not]), rfl⟩
set_option maxHeartbeats 400000 in
theorem rXor_c (a b : UInt8) (w : World) : Calls Try.prog 54 #[.int .u8 a.toNat, .int .u8 b.toNat] w fun e w' => e = .returned (.int .u8 (rxor a b).toNat) ∧ w' = w := by
  go_enter Try.func54, Try.ntmps54
  go_wp2_with (go_at_call 53; refine (rbit_c _ _).mono ?_; rintro e w1 ⟨rfl, rfl⟩)
  all_goals (go_ret; refine ⟨ret_u8 ?_, rfl⟩; unfold rxor; simp only [← i120, ← iEq (bz a) (bz b)]; simp_all)

set_option maxHeartbeats 400000 in
theorem rone_c (a : UInt8) (w : World) : Calls Try.prog 43 #[.int .u8 a.toNat] w fun e w' => e = .returned (.string (S [a])) ∧ Below w.heap.size w w' := by
  have h1 := fun w => one_c a w
  go_enter Try.func43, Try.ntmps43
  go_wp2
  go_ret
  exact ⟨rfl, belA (Below.refl _ _) _⟩
set_option maxHeartbeats 400000 in
theorem rtruth_c (b : Bool) (w : World) : Calls Try.prog 68 #[.bool b] w fun e w' => e = .returned (.string (S (bitL b))) ∧ w' = w := by
  cases b
  all_goals (go_enter Try.func68, Try.ntmps68; go_wp2; go_ret; exact ⟨rfl, rfl⟩)

set_option maxHeartbeats 1000000 in
theorem rAll_c (c : UInt8) (n : Nat) (w : World) (hn : n ≤ 1000000) : Calls Try.prog 48 #[.int .u8 c.toNat, .int .i64 n] w fun e w' => e = .returned (.string (S (rep n c))) ∧ Below w.heap.size w w' := by
  have hmk := make_c n (by omega)
  go_enter Try.func48, Try.ntmps48
  go_wp2
  go_loopw [6] (fun i wr => ∃ k : Nat, k ≤ n ∧ i = .int .i64 k ∧ Hid (Below w.heap.size w wr) ∧ Hid (wr.rowIs w.heap.size 5 n (up (fun _ => c) k))) (fun i _ => n - (intOf i).toNat)
  case atStart => exact ⟨0, Nat.zero_le _, rfl, (Below.refl _ _).alloc (by simp) _, made_up _ _ _ _ (by simp)⟩
  case round =>
    obtain ⟨k, hk, rfl, hb, hr⟩ := hrel
    by_cases hlt : k < n
    · have hc1 : wr.cell? ⟨w.heap.size, k, none⟩ = some (.int .u8 0) := by rw [hr.out.cell hlt]; simp [up]
      have hf1 : wr.frozen? ⟨w.heap.size, k, none⟩ = false := hr.out.frozen _
      have hkI : (k : Int) < (n : Int) := by omega
      go_wp2
      go_roundw
      case rel => exact ⟨k + 1, by omega, by go_num, hb.out.setCell (by simp) _, (hr.out.set k _).congr (fun j _ => up_step _ k _ rfl j)⟩
      case measure => simp [intOf]; omega
    · have hcv := conv_c n w.heap.size (fun _ => c) _ wr hr.out (fun j hj => by unfold up; rw [if_pos (by omega)])
      rw [rep_tab] at hcv
      go_wp2
      go_ret
      exact ⟨rfl, hb.out⟩

set_option maxHeartbeats 1000000 in
theorem rTruth_c (s : ByteArray) (w : World) (hs : s.size ≤ maxLen) : Calls Try.prog 34 #[.string s] w fun e w' => e = .returned (.int .u8 (tru (L s)).toNat) ∧ w' = w := by
  unfold maxLen at hs
  go_enter Try.func34, Try.ntmps34
  go_wp2
  go_loop [3, 4] (fun tv i => ∃ (k : Nat) (t : UInt8), k ≤ s.size ∧ i = .int .i64 k ∧ tv = .int .u8 t.toNat ∧ Hid (t = tru ((L s).take k)) ∧ Hid (t = 48 ∨ t = 120)) (fun _ i => s.size - (intOf i).toNat)
  case atStart => exact ⟨0, 48, Nat.zero_le _, rfl, rfl, rfl, .inl rfl⟩
  case round =>
    obtain ⟨k, t, hk, rfl, rfl, HT, H2⟩ := hrel
    by_cases hlt : k < s.size
    · have HS : Hid _ := tru_step s k hlt t HT.out
      by_cases c1 : s[k] = 49
      · have e1 : ((s[k].toNat : Nat) : Int) = 49 := (i49 _).2 c1
        have HH : Hid _ := tru_hit s k hlt c1
        clear c1
        go_wp2
        go_ret
        exact ⟨ret_u8 (by rw [HH.out]; rfl), rfl⟩
      have e1 : (((s[k].toNat : Nat) : Int) == 49) = false := ne_b (fun h => c1 ((i49 _).1 h))
      by_cases c2 : s[k] = 48
      · have e2 : ((s[k].toNat : Nat) : Int) = 48 := (i48 _).2 c2
        have HR : Hid _ := bor_nought t s[k] H2.out c2
        clear c1 c2
        go_wp2
        go_round
        case rel => exact ⟨k + 1, t, by omega, by go_num, rfl, by rw [HS.out, HR.out]; rfl, H2⟩
        case measure => simp [intOf]; omega
      · have e2 : (((s[k].toNat : Nat) : Int) == 48) = false := ne_b (fun h => c2 ((i48 _).1 h))
        have HR : Hid _ := bor_other t s[k] H2.out c1 c2
        clear c1 c2
        go_wp2
        go_round
        case rel => exact ⟨k + 1, 120, by omega, by go_num, rfl, by rw [HS.out, HR.out]; rfl, .inr rfl⟩
        case measure => simp [intOf]; omega
    · go_wp2
      go_ret
      exact ⟨ret_u8 (by rw [HT.out, take_all s k (by omega)]), rfl⟩

theorem fit_str (s : ByteArray) (n : Nat) (h : n ≤ s.size) : s.extract (s.size - n) s.size = S (fit (L s) n) := by
  apply L_inj; rw [L_extract, L_S]; unfold fit; rw [if_pos (by rw [len_L]; exact h), len_L, List.take_of_length_le (by rw [List.length_drop, len_L]; omega)]
set_option maxHeartbeats 400000 in
theorem rFit_c (s : ByteArray) (n : Nat) (w : World) (hs : s.size ≤ maxLen) (h2 : n ≤ 100000) : Calls Try.prog 30 #[.string s, .int .i64 n] w fun e w' => e = .returned (.string (S (fit (L s) n))) ∧ Below w.heap.size w w' := by
  by_cases h : n ≤ s.size
  · unfold maxLen at hs
    obtain ⟨m, hm⟩ : ∃ m, s.size = m + n := ⟨s.size - n, by omega⟩
    have e1 : (s.size : Int) - (n : Int) = (m : Int) := by omega
    have hm1 : m ≤ s.size := by omega
    have HF : Hid (s.extract m s.size = S (fit (L s) n)) := by have := fit_str s n h; rw [show s.size - n = m by omega] at this; exact this
    clear hm
    go_enter Try.func30, Try.ntmps30
    go_wp2
    go_ret
    exact ⟨ret_str HF.out, Below.refl _ _⟩
  · have hz : (S (rep (n - s.size) 48)).size = n - s.size := by rw [size_S, len_rep]
    unfold maxLen at hs
    go_enter Try.func30, Try.ntmps30
    go_wp2_with fail
    rw [show ((n : Int) - (s.size : Int)) = ((n - s.size : Nat) : Int) from by omega]
    refine (rAll_c 48 (n - s.size) _ (by omega)).mono ?_
    rintro e w' ⟨rfl, hb⟩
    go_wp2
    go_ret
    exact ⟨ret_str (app_fit (by omega)), hb⟩

set_option maxHeartbeats 1000000 in
theorem rturned_c (s : ByteArray) (w : World) (hs : s.size ≤ 1000) : Calls Try.prog 50 #[.string s] w fun e w' => e = .returned (.string (S (turnL (L s)))) ∧ Below w.heap.size w w' := by
  have hmk := make_c s.size (by omega)
  go_enter Try.func50, Try.ntmps50
  go_wp2
  go_loopw [4] (fun i wr => ∃ k : Nat, k ≤ s.size ∧ i = .int .i64 k ∧ Hid (Below w.heap.size w wr) ∧ Hid (wr.rowIs w.heap.size 5 s.size (up (fun i => bnot ((L s).getD i 0)) k))) (fun i _ => s.size - (intOf i).toNat)
  case atStart => exact ⟨0, Nat.zero_le _, rfl, (Below.refl _ _).alloc (by simp) _, made_up _ _ _ _ (by simp)⟩
  case round =>
    obtain ⟨k, hk, rfl, hb, hr⟩ := hrel
    by_cases hlt : k < s.size
    · have hc1 : wr.cell? ⟨w.heap.size, k, none⟩ = some (.int .u8 0) := by rw [hr.out.cell hlt]; simp [up]
      have hf1 : wr.frozen? ⟨w.heap.size, k, none⟩ = false := hr.out.frozen _
      have hkI : (k : Int) < (s.size : Int) := by omega
      go_wp2_with (go_at_call 52; refine (rNot_c _ _).mono ?_; rintro e w' ⟨rfl, rfl⟩)
      all_goals
        go_roundw
        case rel => exact ⟨k + 1, by omega, by go_num, by repeat (first | exact (hb.out.setCell (by simp) _) | refine Below.drew ?_), (hr.out.set k _).congr (fun j _ => up_step _ k _ (by rw [at_getD]) j)⟩
        case measure => simp [intOf]; omega
    · have hcv := conv_c s.size w.heap.size (fun i => bnot ((L s).getD i 0)) _ wr hr.out (fun j hj => by unfold up; rw [if_pos (by omega)])
      have HC : Hid (tab s.size (fun i => bnot ((L s).getD i 0)) = turnL (L s)) := show _ = _ from by unfold turnL; rw [len_L]
      rw [HC.out] at hcv
      go_wp2
      go_ret
      exact ⟨rfl, hb.out⟩
end Go.Proofs.Ytdacoincdkighaa
