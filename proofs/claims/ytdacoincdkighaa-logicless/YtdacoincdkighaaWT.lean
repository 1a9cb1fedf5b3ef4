/- The reference of layer 1: numbers, shifts. -/
import Derived.Test.YtdacoincdkighaaWS
import Derived.Test.YtdacoincdkighaaMath6
namespace Go.Proofs.Ytdacoincdkighaa
open Go.RowKit Lg
set_option linter.unusedVariables false

set_option maxHeartbeats 1000000 in
set_option maxRecDepth 100000 in
theorem rNumber_c (s : ByteArray) (w : World) (hs : s.size ≤ maxLen) (h1 : kno (L s) = true) : Calls Try.prog 33 #[.string s] w fun e w' => e = .returned (.int .i64 (rnum (L s))) ∧ w' = w := by
  unfold maxLen at hs
  have K1 : Hid _ := h1
  clear h1
  go_enter Try.func33, Try.ntmps33
  go_wp2
  go_loop [3, 4] (fun nv i => ∃ k n : Nat, k ≤ s.size ∧ i = .int .i64 k ∧ nv = .int .i64 n ∧ n ≤ 2147483647 ∧ Hid (n = num ((L s).take k))) (fun _ i => s.size - (intOf i).toNat)
  case atStart => exact ⟨0, 0, Nat.zero_le _, rfl, rfl, by omega, rfl⟩
  case round =>
    obtain ⟨k, n, hk, rfl, rfl, hn, HN⟩ := hrel
    by_cases hlt : k < s.size
    · have hstep : num ((L s).take (k + 1)) = 2 * n + pn ((s[k].toNat : Nat) : Int) := by rw [take_snoc s k hlt, num_snoc, ← HN.out, pn_plc]
      have hle := num_take_le (L s) (k + 1)
      have HS : Hid _ := hstep
      have HL : Hid _ := hle
      have hkI : (k : Int) < (s.size : Int) := by omega
      clear hstep hle
      rcases kno_at s K1.out k hlt with ⟨a1, p1⟩ | ⟨a1, p1⟩
      · skip
        rw [p1] at HS
        have q1 : ((s[k].toNat : Nat) : Int) = 48 := (i48 _).2 a1
        clear a1 p1
        by_cases big : 2147483647 < 2 * n + 0
        · have HR : Hid (rnum (L s) = -1) := show _ = _ from by have h1 := HS.out; have h2 := HL.out; unfold rnum; rw [if_neg (by omega)]
          go_wp2
          go_ret
          exact ⟨ret_int HR.out.symm, rfl⟩
        · go_wp2
          go_round
          case rel => exact ⟨k + 1, 2 * n + 0, by omega, by go_num, by go_num, by omega, HS.out.symm⟩
          case measure => simp [intOf]; omega
      · skip
        rw [p1] at HS
        have q1 : ((s[k].toNat : Nat) : Int) = 49 := (i49 _).2 a1
        clear a1 p1
        obtain ⟨m, hm⟩ : ∃ m, 2 * n + 1 = m := ⟨_, rfl⟩
        have hmI : 2 * (n : Int) + 1 = (m : Int) := by omega
        rw [hm] at HS
        clear hm
        by_cases big : 2147483647 < m
        · have HR : Hid (rnum (L s) = -1) := show _ = _ from by have h1 := HS.out; have h2 := HL.out; unfold rnum; rw [if_neg (by omega)]
          go_wp2
          go_ret
          exact ⟨ret_int HR.out.symm, rfl⟩
        · go_wp2
          go_round
          case rel => exact ⟨k + 1, m, by omega, by go_num, by go_num, by omega, HS.out.symm⟩
          case measure => simp [intOf]; omega
    · go_wp2
      go_ret
      exact ⟨ret_int (by have := HN.out; rw [take_all s k (by omega)] at this; unfold rnum; rw [if_pos (by omega), this]), rfl⟩

set_option maxHeartbeats 2000000 in
theorem rshifted_c (s : ByteArray) (b : Int) (w : World) (hs : s.size ≤ 1000) (hb1 : -1000 ≤ b) (hb2 : b ≤ 1000) : Calls Try.prog 67 #[.string s, .int .i64 b] w fun e w' => e = .returned (.string (S (shT (L s) b))) ∧ Below w.heap.size w w' := by
  have hmk := make_c s.size (by omega)
  go_enter Try.func67, Try.ntmps67
  go_wp2
  go_loopw [6] (fun i wr => ∃ k : Nat, k ≤ s.size ∧ i = .int .i64 k ∧ Hid (Below w.heap.size w wr) ∧ Hid (wr.rowIs w.heap.size 5 s.size (up (shB (L s) b) k))) (fun i _ => s.size - (intOf i).toNat)
  case atStart => exact ⟨0, Nat.zero_le _, rfl, (Below.refl _ _).alloc (by simp) _, made_up _ _ _ _ (by simp)⟩
  case round =>
    obtain ⟨k, hk, rfl, hb, hr⟩ := hrel
    by_cases hlt : k < s.size
    · have hc1 : wr.cell? ⟨w.heap.size, k, none⟩ = some (.int .u8 0) := by rw [hr.out.cell hlt]; simp [up]
      have hf1 : wr.frozen? ⟨w.heap.size, k, none⟩ = false := hr.out.frozen _
      have hc2 : ∀ v, (wr.setCell ⟨w.heap.size, k, none⟩ v).cell? ⟨w.heap.size, k, none⟩ = some v := fun v => by rw [(hr.out.set k v).cell hlt, if_pos rfl]
      have hf2 : ∀ v, (wr.setCell ⟨w.heap.size, k, none⟩ v).frozen? ⟨w.heap.size, k, none⟩ = false := fun v => (hr.out.set k v).frozen _
      have hkI : (k : Int) < (s.size : Int) := by omega
      by_cases c1 : 0 ≤ (k : Int) + b ∧ (k : Int) + b < (s.size : Int)
      · obtain ⟨m, hm⟩ : ∃ m : Nat, (k : Int) + b = (m : Int) := ⟨((k : Int) + b).toNat, by omega⟩
        have hm1 : m < s.size := by omega
        have hm2 : (m : Int) < (s.size : Int) := by omega
        have HB : Hid (shB (L s) b k = s[m]) := show _ = _ from by unfold shB; rw [len_L, if_pos c1, at_getD, show ((k : Int) + b).toNat = m by omega]
        clear c1
        go_wp2
        go_roundw
        case rel =>
          refine ⟨k + 1, by omega, by go_num, (hb.out.setCell (by simp) _).setCell (by simp) _, World.rowIs.congr ((hr.out.set k _).set k _) (fun j _ => ?_)⟩
          rw [← up_step _ k (.int .u8 (shB (L s) b k).toNat) rfl j, HB.out]
          by_cases e : j = k
          · rw [if_pos e, if_pos e]
          · rw [if_neg e, if_neg e, if_neg e]
        case measure => simp [intOf]; omega
      · have HB : Hid (shB (L s) b k = 48) := show _ = _ from by unfold shB; rw [len_L, if_neg c1]
        by_cases c2 : 0 ≤ (k : Int) + b
        · have c3 : (s.size : Int) ≤ (k : Int) + b := by omega
          clear c1
          go_wp2
          go_roundw
          case rel => exact ⟨k + 1, by omega, by go_num, hb.out.setCell (by simp) _, (hr.out.set k _).congr (fun j _ => up_step _ k _ (by rw [HB.out]; rfl) j)⟩
          case measure => simp [intOf]; omega
        · clear c1
          go_wp2
          go_roundw
          case rel => exact ⟨k + 1, by omega, by go_num, hb.out.setCell (by simp) _, (hr.out.set k _).congr (fun j _ => up_step _ k _ (by rw [HB.out]; rfl) j)⟩
          case measure => simp [intOf]; omega
    · have hcv := conv_c s.size w.heap.size (shB (L s) b) _ wr hr.out (fun j hj => by unfold up; rw [if_pos (by omega)])
      go_wp2
      go_ret
      exact ⟨ret_str (by unfold shT; rw [len_L]), hb.out⟩
end Go.Proofs.Ytdacoincdkighaa
