/- Texts YA YB YB2 YB3, joined: what each part says stands ahead of it. -/
import Derived.Test.YtpnhefjiobnelaaGX
import Derived.Test.YtpnhefjiobnelaaGM
import Derived.Lib.AppendStr
/- Layer 2, the reference: digits, whole numbers, four bits. -/
namespace Go.Proofs.Ytpnhefjiobnelaa
open Go.RowKit Lg
set_option linter.unusedVariables false
set_option linter.unusedSimpArgs false

set_option maxHeartbeats 400000 in
theorem rdigit_z (n : Int) (w : World) : Calls Try.prog 24 #[.int .u8 n] w fun e w' => e = .returned (.bool (decide (48 ≤ n ∧ n ≤ 57))) ∧ w' = w := by
  go_enter Try.func24, Try.ntmps24
  go_wp2
  all_goals (go_ret; refine ⟨ret_bool ?_, rfl⟩)
  all_goals first | rfl | (rw [Bool.eq_iff_iff]; simp only [Bool.or_eq_true, Bool.and_eq_true, decide_eq_true_eq, beq_iff_eq]; omega) | (simp [*] <;> omega)
theorem rdigit_c (c : UInt8) (w : World) : Calls Try.prog 24 #[.int .u8 c.toNat] w fun e w' => e = .returned (.bool (digB c)) ∧ w' = w := by
  rw [digB_iff]; exact rdigit_z _ w

set_option maxHeartbeats 4000000 in
theorem decimal_c (s : ByteArray) (m : Nat) (b : Bool) (w : World) (hs : s.size ≤ maxLen) (hm : m ≤ 4294967295) :
    Calls Try.prog 40 #[.string s, .int .i64 m, .bool b] w fun e w' => e = .returned (.int .i64 (decI m b (L s))) ∧ w' = w := by
  unfold maxLen at hs
  by_cases hz : s.size = 0
  · have hse : L s = [] := (empty_L s).2 hz
    have hemp : s.toList.isEmpty = true := by rw [toL, hse]; rfl
    have HK : Hid (decI m b (L s) = -1) := by unfold decI; rw [if_pos (Or.inl hse)]; exact rfl
    clear hse
    go_enter Try.func40, Try.ntmps40
    go_wp2
    go_ret
    exact ⟨ret_int (by rw [HK.out]), rfl⟩
  · have hpos : 0 < s.size := by omega
    have hne : ¬ L s = [] := by rw [empty_L]; exact hz
    have hemp : s.toList.isEmpty = false := by rw [toL, List.isEmpty_eq_false_iff]; exact hne
    cases b with
    | true =>
      have HK : Hid (decI m true (L s) = whI m (L s)) := by unfold decI; rw [if_neg (by simp [hne])]; exact rfl
      clear hne
      go_enter Try.func40, Try.ntmps40
      go_wp2
      go_loop [7, 8] (fun nv i => ∃ k n : Nat, k ≤ s.size ∧ i = .int .i64 k ∧ nv = .int .i64 n ∧ n ≤ m ∧ Hid (whF m 0 (L s) = whF m n ((L s).drop k))) (fun _ i => s.size - (intOf i).toNat)
      case atStart => exact ⟨0, 0, Nat.zero_le _, rfl, rfl, Nat.zero_le _, rfl⟩
      case round =>
        obtain ⟨k, n, hk, rfl, rfl, hn, HN⟩ := hrel
        by_cases hlt : k < s.size
        · have hdr := drop_cons s k hlt
          by_cases hd : digB s[k] = true
          · have hd2 := hd
            rw [digB_iff] at hd2
            have hd3 : 48 ≤ ((s[k].toNat : Nat) : Int) ∧ ((s[k].toNat : Nat) : Int) ≤ 57 := of_decide_eq_true hd2
            obtain ⟨d, hdd⟩ : ∃ d : Nat, (s[k].toNat : Nat) = 48 + d := ⟨s[k].toNat - 48, by omega⟩
            have hd9 : d ≤ 9 := by omega
            have e1 : ((s[k].toNat : Nat) : Int) - 48 = (d : Int) := by omega
            have hst : whF m 0 (L s) = if 10 * n + d ≤ m then whF m (10 * n + d) ((L s).drop (k + 1)) else none := by
              rw [HN.out, hdr]; simp only [whF]; rw [if_pos hd, show s[k].toNat - 48 = d by omega]
            have HS : Hid _ := hst
            clear hst hdr hdd hd2
            by_cases hle : 10 * n + d ≤ m
            · go_wp2_with (go_at_call 24; refine (rdigit_c s[k] _).mono ?_; rintro e w' ⟨rfl, rfl⟩)
              go_round
              case rel => exact ⟨k + 1, 10 * n + d, by omega, by go_num, by go_num, hle, by have := HS.out; rw [if_pos hle] at this; exact this⟩
              case measure => simp [intOf]; omega
            · go_wp2_with (go_at_call 24; refine (rdigit_c s[k] _).mono ?_; rintro e w' ⟨rfl, rfl⟩)
              go_ret
              exact ⟨ret_int (by rw [HK.out, whI_none (by have := HS.out; rw [if_neg hle] at this; exact this)]), rfl⟩
          · have hd' : digB s[k] = false := by simpa using hd
            have HS : Hid (whF m 0 (L s) = none) := by rw [HN.out, hdr]; simp only [whF]; rw [if_neg hd]; exact rfl
            clear hdr
            go_wp2_with (go_at_call 24; refine (rdigit_c s[k] _).mono ?_; rintro e w' ⟨rfl, rfl⟩)
            go_ret
            exact ⟨ret_int (by rw [HK.out, whI_none HS.out]), rfl⟩
        · have HS : Hid (whF m 0 (L s) = some n) := by rw [HN.out, drop_all s k (by omega)]; exact rfl
          go_wp2
          go_ret
          exact ⟨ret_int (by rw [HK.out, whI_some HS.out]), rfl⟩
    | false =>
      by_cases h10 : 10 < s.size
      · have HK : Hid (decI m false (L s) = -1) := by unfold decI; rw [if_pos (Or.inr ⟨rfl, Or.inl (by rw [len_L]; exact h10)⟩)]; exact rfl
        clear hne
        go_enter Try.func40, Try.ntmps40
        go_wp2
        go_ret
        exact ⟨ret_int (by rw [HK.out]), rfl⟩
      · by_cases hA : 1 < s.size ∧ hd0 (L s) = 48
        · have HK : Hid (decI m false (L s) = -1) := by unfold decI; rw [if_pos (Or.inr ⟨rfl, Or.inr ⟨by rw [len_L]; exact hA.1, hA.2⟩⟩)]; exact rfl
          obtain ⟨hA1, hA2⟩ := hA
          have hA3 : (((s[0].toNat : Nat) : Int) == 48) = true := by have := headI s (by omega) 48; rw [hA2] at this; exact this
          clear hA2 hne
          go_enter Try.func40, Try.ntmps40
          go_wp2
          go_ret
          exact ⟨ret_int (by rw [HK.out]), rfl⟩
        · have HK : Hid (decI m false (L s) = whI m (L s)) := by
            unfold decI
            rw [if_neg (by rw [len_L]; intro e; rcases e with e | ⟨_, e | e⟩; exact hne e; exact h10 e; exact hA e)]; exact rfl
          have hA' : s.size ≤ 1 ∨ (1 < s.size ∧ ∃ hp : 0 < s.size, (((s[0].toNat : Nat) : Int) == 48) = false) := by
            by_cases h1 : s.size ≤ 1
            · exact Or.inl h1
            · refine Or.inr ⟨by omega, by omega, ?_⟩
              have := headI s (by omega) 48
              refine this.trans ?_
              rw [beq_eq_false_iff_ne]; intro e; exact hA ⟨by omega, e⟩
          clear hA hne
          rcases hA' with h1 | ⟨h1, hp, hb0⟩
          · go_enter Try.func40, Try.ntmps40
            go_wp2
            go_loop [7, 8] (fun nv i => ∃ k n : Nat, k ≤ s.size ∧ i = .int .i64 k ∧ nv = .int .i64 n ∧ n ≤ m ∧ Hid (whF m 0 (L s) = whF m n ((L s).drop k))) (fun _ i => s.size - (intOf i).toNat)
            case atStart => exact ⟨0, 0, Nat.zero_le _, rfl, rfl, Nat.zero_le _, rfl⟩
            case round =>
              obtain ⟨k, n, hk, rfl, rfl, hn, HN⟩ := hrel
              by_cases hlt : k < s.size
              · have hdr := drop_cons s k hlt
                by_cases hd : digB s[k] = true
                · have hd2 := hd
                  rw [digB_iff] at hd2
                  have hd3 : 48 ≤ ((s[k].toNat : Nat) : Int) ∧ ((s[k].toNat : Nat) : Int) ≤ 57 := of_decide_eq_true hd2
                  obtain ⟨d, hdd⟩ : ∃ d : Nat, (s[k].toNat : Nat) = 48 + d := ⟨s[k].toNat - 48, by omega⟩
                  have hd9 : d ≤ 9 := by omega
                  have e1 : ((s[k].toNat : Nat) : Int) - 48 = (d : Int) := by omega
                  have hst : whF m 0 (L s) = if 10 * n + d ≤ m then whF m (10 * n + d) ((L s).drop (k + 1)) else none := by
                    rw [HN.out, hdr]; simp only [whF]; rw [if_pos hd, show s[k].toNat - 48 = d by omega]
                  have HS : Hid _ := hst
                  clear hst hdr hdd hd2
                  by_cases hle : 10 * n + d ≤ m
                  · go_wp2_with (go_at_call 24; refine (rdigit_c s[k] _).mono ?_; rintro e w' ⟨rfl, rfl⟩)
                    go_round
                    case rel => exact ⟨k + 1, 10 * n + d, by omega, by go_num, by go_num, hle, by have := HS.out; rw [if_pos hle] at this; exact this⟩
                    case measure => simp [intOf]; omega
                  · go_wp2_with (go_at_call 24; refine (rdigit_c s[k] _).mono ?_; rintro e w' ⟨rfl, rfl⟩)
                    go_ret
                    exact ⟨ret_int (by rw [HK.out, whI_none (by have := HS.out; rw [if_neg hle] at this; exact this)]), rfl⟩
                · have hd' : digB s[k] = false := by simpa using hd
                  have HS : Hid (whF m 0 (L s) = none) := by rw [HN.out, hdr]; simp only [whF]; rw [if_neg hd]; exact rfl
                  clear hdr
                  go_wp2_with (go_at_call 24; refine (rdigit_c s[k] _).mono ?_; rintro e w' ⟨rfl, rfl⟩)
                  go_ret
                  exact ⟨ret_int (by rw [HK.out, whI_none HS.out]), rfl⟩
              · have HS : Hid (whF m 0 (L s) = some n) := by rw [HN.out, drop_all s k (by omega)]; exact rfl
                go_wp2
                go_ret
                exact ⟨ret_int (by rw [HK.out, whI_some HS.out]), rfl⟩
          · go_enter Try.func40, Try.ntmps40
            go_wp2
            go_loop [7, 8] (fun nv i => ∃ k n : Nat, k ≤ s.size ∧ i = .int .i64 k ∧ nv = .int .i64 n ∧ n ≤ m ∧ Hid (whF m 0 (L s) = whF m n ((L s).drop k))) (fun _ i => s.size - (intOf i).toNat)
            case atStart => exact ⟨0, 0, Nat.zero_le _, rfl, rfl, Nat.zero_le _, rfl⟩
            case round =>
              obtain ⟨k, n, hk, rfl, rfl, hn, HN⟩ := hrel
              by_cases hlt : k < s.size
              · have hdr := drop_cons s k hlt
                by_cases hd : digB s[k] = true
                · have hd2 := hd
                  rw [digB_iff] at hd2
                  have hd3 : 48 ≤ ((s[k].toNat : Nat) : Int) ∧ ((s[k].toNat : Nat) : Int) ≤ 57 := of_decide_eq_true hd2
                  obtain ⟨d, hdd⟩ : ∃ d : Nat, (s[k].toNat : Nat) = 48 + d := ⟨s[k].toNat - 48, by omega⟩
                  have hd9 : d ≤ 9 := by omega
                  have e1 : ((s[k].toNat : Nat) : Int) - 48 = (d : Int) := by omega
                  have hst : whF m 0 (L s) = if 10 * n + d ≤ m then whF m (10 * n + d) ((L s).drop (k + 1)) else none := by
                    rw [HN.out, hdr]; simp only [whF]; rw [if_pos hd, show s[k].toNat - 48 = d by omega]
                  have HS : Hid _ := hst
                  clear hst hdr hdd hd2
                  by_cases hle : 10 * n + d ≤ m
                  · go_wp2_with (go_at_call 24; refine (rdigit_c s[k] _).mono ?_; rintro e w' ⟨rfl, rfl⟩)
                    go_round
                    case rel => exact ⟨k + 1, 10 * n + d, by omega, by go_num, by go_num, hle, by have := HS.out; rw [if_pos hle] at this; exact this⟩
                    case measure => simp [intOf]; omega
                  · go_wp2_with (go_at_call 24; refine (rdigit_c s[k] _).mono ?_; rintro e w' ⟨rfl, rfl⟩)
                    go_ret
                    exact ⟨ret_int (by rw [HK.out, whI_none (by have := HS.out; rw [if_neg hle] at this; exact this)]), rfl⟩
                · have hd' : digB s[k] = false := by simpa using hd
                  have HS : Hid (whF m 0 (L s) = none) := by rw [HN.out, hdr]; simp only [whF]; rw [if_neg hd]; exact rfl
                  clear hdr
                  go_wp2_with (go_at_call 24; refine (rdigit_c s[k] _).mono ?_; rintro e w' ⟨rfl, rfl⟩)
                  go_ret
                  exact ⟨ret_int (by rw [HK.out, whI_none HS.out]), rfl⟩
              · have HS : Hid (whF m 0 (L s) = some n) := by rw [HN.out, drop_all s k (by omega)]; exact rfl
                go_wp2
                go_ret
                exact ⟨ret_int (by rw [HK.out, whI_some HS.out]), rfl⟩

set_option maxRecDepth 100000 in
theorem four_conv (c : UInt8) (w : World) : (convert 112 9 (.slice (some ⟨w.heap.size, 0, none⟩) 4 4)).run Try.prog (w.alloc (.cells #[.int .u8 c.toNat, .int .u8 c.toNat, .int .u8 c.toNat, .int .u8 c.toNat] 5)) = .ok (.string (S [c, c, c, c])) (w.alloc (.cells #[.int .u8 c.toNat, .int .u8 c.toNat, .int .u8 c.toNat, .int .u8 c.toNat] 5)) := by
  have h := run_convert_bytes_arg (P := Try.prog) (w.alloc (.cells #[.int .u8 c.toNat, .int .u8 c.toNat, .int .u8 c.toNat, .int .u8 c.toNat] 5)) 112 5 Try.underlying112 Try.underlying5 w.heap.size 0 4 4 [(c.toNat : Int), (c.toNat : Int), (c.toNat : Int), (c.toNat : Int)] rfl (fun i hi => by
    rw [World.cell?_alloc_at _ _ _ _ rfl]
    match i, hi with
    | 0, _ => rfl
    | 1, _ => rfl
    | 2, _ => rfl
    | 3, _ => rfl) 9 Try.underlying9
  rw [h]; congr 2; apply L_inj; rw [L_S, L, strOfNums_data]; simp
set_option maxHeartbeats 4000000 in
theorem four_x (c : UInt8) (w : World) (hc : c = 120 ∨ c = 122) : Calls Try.prog 53 #[.int .u8 c.toNat] w fun e w' => e = .returned (.string (S (oS (dgt 4 c)))) ∧ Below w.heap.size w w' := by
  rcases hc with rfl | rfl
  · have h1 : (convert 112 9 (.slice (some ⟨w.heap.size, 0, none⟩) 4 4)).run Try.prog (w.alloc (.cells #[.int .u8 120, .int .u8 120, .int .u8 120, .int .u8 120] 5)) = .ok (.string (S [120, 120, 120, 120])) (w.alloc (.cells #[.int .u8 120, .int .u8 120, .int .u8 120, .int .u8 120] 5)) := four_conv 120 w
    go_enter Try.func53, Try.ntmps53
    go_wp2_with (first | (go_at_call 24; refine (rdigit_z _ _).mono ?_; rintro e w' ⟨rfl, rfl⟩))
    go_ret
    exact ⟨rfl, belA (Below.refl _ _) _⟩
  · have h1 : (convert 112 9 (.slice (some ⟨w.heap.size, 0, none⟩) 4 4)).run Try.prog (w.alloc (.cells #[.int .u8 122, .int .u8 122, .int .u8 122, .int .u8 122] 5)) = .ok (.string (S [122, 122, 122, 122])) (w.alloc (.cells #[.int .u8 122, .int .u8 122, .int .u8 122, .int .u8 122] 5)) := four_conv 122 w
    go_enter Try.func53, Try.ntmps53
    go_wp2_with (first | (go_at_call 24; refine (rdigit_z _ _).mono ?_; rintro e w' ⟨rfl, hw⟩; have hw2 := hw.symm; subst hw2))
    go_ret
    exact ⟨rfl, belA (Below.refl _ _) _⟩
set_option maxHeartbeats 4000000 in
theorem four_n (c : UInt8) (w : World) (hv : hexV c = none) (hx : ¬ c = 120) (hz : ¬ c = 122) : Calls Try.prog 53 #[.int .u8 c.toNat] w fun e w' => e = .returned (.string (S (oS (dgt 4 c)))) ∧ Below w.heap.size w w' := by
  have HD : Hid (dgt 4 c = none) := by unfold dgt; rw [if_neg (by simp [hx, hz]), hv]; exact rfl
  have e1 : (((c.toNat : Nat) : Int) == 120) = false := by rw [beq_eq_false_iff_ne]; intro h; exact hx ((toI c 120).1 h)
  have e2 : (((c.toNat : Nat) : Int) == 122) = false := by rw [beq_eq_false_iff_ne]; intro h; exact hz ((toI c 122).1 h)
  obtain ⟨h1, h2, h3⟩ := hex_none hv
  clear hv hx hz
  rcases h2 with h2 | h2 <;> rcases h3 with h3 | h3
  all_goals
    go_enter Try.func53, Try.ntmps53
    go_wp2_with (first | (go_at_call 24; refine (rdigit_c c _).mono ?_; rintro e w' ⟨rfl, rfl⟩))
    all_goals (go_ret; exact ⟨ret_str (by rw [HD.out]; rfl), Below.refl _ _⟩)
set_option maxHeartbeats 8000000 in
theorem four_s (c : UInt8) (n : Nat) (w : World) (hv : hexV c = some n) : Calls Try.prog 53 #[.int .u8 c.toNat] w fun e w' => e = .returned (.string (S (oS (dgt 4 c)))) ∧ Below w.heap.size w w' := by
  have hc := hex_some hv
  clear hv
  rcases hc with rfl | rfl | rfl | rfl | rfl | rfl | rfl | rfl | rfl | rfl | rfl | rfl | rfl | rfl | rfl | rfl | rfl | rfl | rfl | rfl | rfl | rfl
  · go_enter Try.func53, Try.ntmps53
    go_wp2_with (first | (go_at_call 24; refine (rdigit_z _ _).mono ?_; rintro e w' ⟨rfl, rfl⟩) | (go_at_call 41; refine (rOf_c 0 4 _ (by omega) (by omega) (by omega)).mono ?_; rintro e w' ⟨rfl, hb⟩))
    go_ret
    exact ⟨ret_str (congrArg S (by decide)), by assumption⟩
  · go_enter Try.func53, Try.ntmps53
    go_wp2_with (first | (go_at_call 24; refine (rdigit_z _ _).mono ?_; rintro e w' ⟨rfl, rfl⟩) | (go_at_call 41; refine (rOf_c 1 4 _ (by omega) (by omega) (by omega)).mono ?_; rintro e w' ⟨rfl, hb⟩))
    go_ret
    exact ⟨ret_str (congrArg S (by decide)), by assumption⟩
  · go_enter Try.func53, Try.ntmps53
    go_wp2_with (first | (go_at_call 24; refine (rdigit_z _ _).mono ?_; rintro e w' ⟨rfl, rfl⟩) | (go_at_call 41; refine (rOf_c 2 4 _ (by omega) (by omega) (by omega)).mono ?_; rintro e w' ⟨rfl, hb⟩))
    go_ret
    exact ⟨ret_str (congrArg S (by decide)), by assumption⟩
  · go_enter Try.func53, Try.ntmps53
    go_wp2_with (first | (go_at_call 24; refine (rdigit_z _ _).mono ?_; rintro e w' ⟨rfl, rfl⟩) | (go_at_call 41; refine (rOf_c 3 4 _ (by omega) (by omega) (by omega)).mono ?_; rintro e w' ⟨rfl, hb⟩))
    go_ret
    exact ⟨ret_str (congrArg S (by decide)), by assumption⟩
  · go_enter Try.func53, Try.ntmps53
    go_wp2_with (first | (go_at_call 24; refine (rdigit_z _ _).mono ?_; rintro e w' ⟨rfl, rfl⟩) | (go_at_call 41; refine (rOf_c 4 4 _ (by omega) (by omega) (by omega)).mono ?_; rintro e w' ⟨rfl, hb⟩))
    go_ret
    exact ⟨ret_str (congrArg S (by decide)), by assumption⟩
  · go_enter Try.func53, Try.ntmps53
    go_wp2_with (first | (go_at_call 24; refine (rdigit_z _ _).mono ?_; rintro e w' ⟨rfl, rfl⟩) | (go_at_call 41; refine (rOf_c 5 4 _ (by omega) (by omega) (by omega)).mono ?_; rintro e w' ⟨rfl, hb⟩))
    go_ret
    exact ⟨ret_str (congrArg S (by decide)), by assumption⟩
  · go_enter Try.func53, Try.ntmps53
    go_wp2_with (first | (go_at_call 24; refine (rdigit_z _ _).mono ?_; rintro e w' ⟨rfl, rfl⟩) | (go_at_call 41; refine (rOf_c 6 4 _ (by omega) (by omega) (by omega)).mono ?_; rintro e w' ⟨rfl, hb⟩))
    go_ret
    exact ⟨ret_str (congrArg S (by decide)), by assumption⟩
  · go_enter Try.func53, Try.ntmps53
    go_wp2_with (first | (go_at_call 24; refine (rdigit_z _ _).mono ?_; rintro e w' ⟨rfl, rfl⟩) | (go_at_call 41; refine (rOf_c 7 4 _ (by omega) (by omega) (by omega)).mono ?_; rintro e w' ⟨rfl, hb⟩))
    go_ret
    exact ⟨ret_str (congrArg S (by decide)), by assumption⟩
  · go_enter Try.func53, Try.ntmps53
    go_wp2_with (first | (go_at_call 24; refine (rdigit_z _ _).mono ?_; rintro e w' ⟨rfl, rfl⟩) | (go_at_call 41; refine (rOf_c 8 4 _ (by omega) (by omega) (by omega)).mono ?_; rintro e w' ⟨rfl, hb⟩))
    go_ret
    exact ⟨ret_str (congrArg S (by decide)), by assumption⟩
  · go_enter Try.func53, Try.ntmps53
    go_wp2_with (first | (go_at_call 24; refine (rdigit_z _ _).mono ?_; rintro e w' ⟨rfl, rfl⟩) | (go_at_call 41; refine (rOf_c 9 4 _ (by omega) (by omega) (by omega)).mono ?_; rintro e w' ⟨rfl, hb⟩))
    go_ret
    exact ⟨ret_str (congrArg S (by decide)), by assumption⟩
  · go_enter Try.func53, Try.ntmps53
    go_wp2_with (first | (go_at_call 24; refine (rdigit_z _ _).mono ?_; rintro e w' ⟨rfl, rfl⟩) | (go_at_call 41; refine (rOf_c 10 4 _ (by omega) (by omega) (by omega)).mono ?_; rintro e w' ⟨rfl, hb⟩))
    go_ret
    exact ⟨ret_str (congrArg S (by decide)), by assumption⟩
  · go_enter Try.func53, Try.ntmps53
    go_wp2_with (first | (go_at_call 24; refine (rdigit_z _ _).mono ?_; rintro e w' ⟨rfl, rfl⟩) | (go_at_call 41; refine (rOf_c 11 4 _ (by omega) (by omega) (by omega)).mono ?_; rintro e w' ⟨rfl, hb⟩))
    go_ret
    exact ⟨ret_str (congrArg S (by decide)), by assumption⟩
  · go_enter Try.func53, Try.ntmps53
    go_wp2_with (first | (go_at_call 24; refine (rdigit_z _ _).mono ?_; rintro e w' ⟨rfl, rfl⟩) | (go_at_call 41; refine (rOf_c 12 4 _ (by omega) (by omega) (by omega)).mono ?_; rintro e w' ⟨rfl, hb⟩))
    go_ret
    exact ⟨ret_str (congrArg S (by decide)), by assumption⟩
  · go_enter Try.func53, Try.ntmps53
    go_wp2_with (first | (go_at_call 24; refine (rdigit_z _ _).mono ?_; rintro e w' ⟨rfl, rfl⟩) | (go_at_call 41; refine (rOf_c 13 4 _ (by omega) (by omega) (by omega)).mono ?_; rintro e w' ⟨rfl, hb⟩))
    go_ret
    exact ⟨ret_str (congrArg S (by decide)), by assumption⟩
  · go_enter Try.func53, Try.ntmps53
    go_wp2_with (first | (go_at_call 24; refine (rdigit_z _ _).mono ?_; rintro e w' ⟨rfl, rfl⟩) | (go_at_call 41; refine (rOf_c 14 4 _ (by omega) (by omega) (by omega)).mono ?_; rintro e w' ⟨rfl, hb⟩))
    go_ret
    exact ⟨ret_str (congrArg S (by decide)), by assumption⟩
  · go_enter Try.func53, Try.ntmps53
    go_wp2_with (first | (go_at_call 24; refine (rdigit_z _ _).mono ?_; rintro e w' ⟨rfl, rfl⟩) | (go_at_call 41; refine (rOf_c 15 4 _ (by omega) (by omega) (by omega)).mono ?_; rintro e w' ⟨rfl, hb⟩))
    go_ret
    exact ⟨ret_str (congrArg S (by decide)), by assumption⟩
  · go_enter Try.func53, Try.ntmps53
    go_wp2_with (first | (go_at_call 24; refine (rdigit_z _ _).mono ?_; rintro e w' ⟨rfl, rfl⟩) | (go_at_call 41; refine (rOf_c 10 4 _ (by omega) (by omega) (by omega)).mono ?_; rintro e w' ⟨rfl, hb⟩))
    go_ret
    exact ⟨ret_str (congrArg S (by decide)), by assumption⟩
  · go_enter Try.func53, Try.ntmps53
    go_wp2_with (first | (go_at_call 24; refine (rdigit_z _ _).mono ?_; rintro e w' ⟨rfl, rfl⟩) | (go_at_call 41; refine (rOf_c 11 4 _ (by omega) (by omega) (by omega)).mono ?_; rintro e w' ⟨rfl, hb⟩))
    go_ret
    exact ⟨ret_str (congrArg S (by decide)), by assumption⟩
  · go_enter Try.func53, Try.ntmps53
    go_wp2_with (first | (go_at_call 24; refine (rdigit_z _ _).mono ?_; rintro e w' ⟨rfl, rfl⟩) | (go_at_call 41; refine (rOf_c 12 4 _ (by omega) (by omega) (by omega)).mono ?_; rintro e w' ⟨rfl, hb⟩))
    go_ret
    exact ⟨ret_str (congrArg S (by decide)), by assumption⟩
  · go_enter Try.func53, Try.ntmps53
    go_wp2_with (first | (go_at_call 24; refine (rdigit_z _ _).mono ?_; rintro e w' ⟨rfl, rfl⟩) | (go_at_call 41; refine (rOf_c 13 4 _ (by omega) (by omega) (by omega)).mono ?_; rintro e w' ⟨rfl, hb⟩))
    go_ret
    exact ⟨ret_str (congrArg S (by decide)), by assumption⟩
  · go_enter Try.func53, Try.ntmps53
    go_wp2_with (first | (go_at_call 24; refine (rdigit_z _ _).mono ?_; rintro e w' ⟨rfl, rfl⟩) | (go_at_call 41; refine (rOf_c 14 4 _ (by omega) (by omega) (by omega)).mono ?_; rintro e w' ⟨rfl, hb⟩))
    go_ret
    exact ⟨ret_str (congrArg S (by decide)), by assumption⟩
  · go_enter Try.func53, Try.ntmps53
    go_wp2_with (first | (go_at_call 24; refine (rdigit_z _ _).mono ?_; rintro e w' ⟨rfl, rfl⟩) | (go_at_call 41; refine (rOf_c 15 4 _ (by omega) (by omega) (by omega)).mono ?_; rintro e w' ⟨rfl, hb⟩))
    go_ret
    exact ⟨ret_str (congrArg S (by decide)), by assumption⟩
theorem four_c (c : UInt8) (w : World) : Calls Try.prog 53 #[.int .u8 c.toNat] w fun e w' => e = .returned (.string (S (oS (dgt 4 c)))) ∧ Below w.heap.size w w' := by
  by_cases hx : c = 120 ∨ c = 122
  · exact four_x c w hx
  · cases hv : hexV c with
    | none => exact four_n c w hv (fun h => hx (Or.inl h)) (fun h => hx (Or.inr h))
    | some n => exact four_s c n w hv
end Go.Proofs.Ytpnhefjiobnelaa

/- Layer 2, the reference: the bits of digits. -/
namespace Go.Proofs.Ytpnhefjiobnelaa
open Go.RowKit Lg
set_option linter.unusedVariables false
set_option linter.unusedSimpArgs false

theorem infoByte2 : ∃ i, Try.prog.info? 5 = some i ∧ i.zero = some (.int .u8 0) ∧ i.size = 1 ∧ i.bytes = 1 := info_parts (by kernel_rfl)
set_option maxRecDepth 100000 in
theorem conv_own {w : World} {g n cap : Nat} {b : List UInt8} (hn : b.length = n) (h : ∀ j u, (Lib.byteCells b)[j]? = some u → w.cell? ⟨g, j, none⟩ = some u) : (convert 112 9 (.slice (some ⟨g, 0, none⟩) n cap)).run Try.prog w = .ok (.string (S b)) w := by
  subst hn
  have hh := run_convert_bytes_arg (P := Try.prog) w 112 5 Try.underlying112 Try.underlying5 g 0 b.length cap (b.map fun c => (c.toNat : Int)) (by simp) (fun i hi => by
    rw [Nat.zero_add]
    exact h i _ (by simp [Lib.byteCells, hi])) 9 Try.underlying9
  rw [hh]; congr 2; apply L_inj; rw [L_S, L, strOfNums_data, List.map_map]
  exact (List.map_congr_left (by intro c _; simp)).trans (List.map_id _)
theorem ext_one (s : ByteArray) (i : Nat) (h : i < s.size) : s.extract i (i + 1) = ⟨#[s[i]]⟩ := by
  apply L_inj
  rw [L_extract, drop_cons s i h, show i + 1 - i = 1 by omega]; rfl

set_option maxHeartbeats 4000000 in
theorem digits_e (c : UInt8) (s : ByteArray) (w : World) (hs : s.size = 0) : Calls Try.prog 42 #[.int .u8 c.toNat, .string s] w fun e w' => e = .returned (.string (S (digL c (L s)))) ∧ Below w.heap.size w w' := by
  have hse : L s = [] := (empty_L s).2 hs
  have hemp : s.toList.isEmpty = true := by rw [toL, hse]; rfl
  have HK : Hid (digL c (L s) = []) := by unfold digL; rw [if_pos hse]; exact rfl
  clear hse
  go_enter Try.func42, Try.ntmps42
  go_wp2
  go_ret
  exact ⟨ret_str (by rw [HK.out]; rfl), Below.refl _ _⟩

set_option maxHeartbeats 4000000 in
theorem digits_d (s : ByteArray) (w : World) (hs : s.size ≤ maxLen) (h0 : s.size ≠ 0) : Calls Try.prog 42 #[.int .u8 100, .string s] w fun e w' => e = .returned (.string (S (digL 100 (L s)))) ∧ Below w.heap.size w w' := by
  have hne : ¬ L s = [] := by rw [empty_L]; exact h0
  have hemp : s.toList.isEmpty = false := by rw [toL, List.isEmpty_eq_false_iff]; exact hne
  have hdi : decI 2147483647 true (L s) = whI 2147483647 (L s) := by unfold decI; rw [if_neg (by simp [hne])]
  have HDC := fun w => decimal_c s 2147483647 true w hs (by omega)
  rw [hdi] at HDC
  cases hw : whF 2147483647 0 (L s) with
  | none =>
    have HK : Hid (digL 100 (L s) = []) := by unfold digL; rw [if_neg hne, if_pos rfl, hw]; exact rfl
    rw [whI_none hw] at HDC
    clear hne hdi hw
    go_enter Try.func42, Try.ntmps42
    go_wp2_with (first | (go_at_call 40; refine (HDC _).mono ?_; rintro e w' ⟨rfl, rfl⟩))
    go_ret
    exact ⟨ret_str (by rw [HK.out]; rfl), Below.refl _ _⟩
  | some n =>
    have HK : Hid (digL 100 (L s) = ofL n 31) := by unfold digL; rw [if_neg hne, if_pos rfl, hw]; exact rfl
    have hn := whF_le (Nat.zero_le _) hw
    rw [whI_some hw] at HDC
    clear hne hdi hw
    go_enter Try.func42, Try.ntmps42
    go_wp2_with (first | (go_at_call 40; refine (HDC _).mono ?_; rintro e w' ⟨rfl, rfl⟩) | (go_at_call 41; refine (rOf_c n 31 _ (by omega) (by omega) (by omega)).mono ?_; rintro e w' ⟨rfl, hb⟩))
    go_ret
    exact ⟨ret_str (by rw [HK.out]), by assumption⟩

theorem dgt1_none {c : UInt8} (h : bitB c = false) : dgt 1 c = none := by
  unfold dgt
  have h4 : c ≠ 48 ∧ c ≠ 49 ∧ c ≠ 120 ∧ c ≠ 122 := by
    refine ⟨?_, ?_, ?_, ?_⟩ <;> (rintro rfl; exact absurd h (by decide))
  rw [if_neg (by rintro (e | e); exact h4.2.2.1 e; exact h4.2.2.2 e)]
  cases hv : hexV c with
  | none => rfl
  | some n =>
    show (if n < 2 ^ 1 then some (ofL n 1) else none) = none
    rw [if_neg]
    intro hn
    have hn2 : n < 2 := hn
    have n48 : c.toNat ≠ 48 := fun e => h4.1 (by rw [← UInt8.toNat_inj]; exact e)
    have n49 : c.toNat ≠ 49 := fun e => h4.2.1 (by rw [← UInt8.toNat_inj]; exact e)
    unfold hexV at hv
    split at hv
    · rename_i g; simp [digB] at g; injection hv with hv; omega
    split at hv
    · rename_i g; injection hv with hv; omega
    split at hv
    · rename_i g; injection hv with hv; omega
    · cases hv
set_option maxHeartbeats 4000000 in
theorem digits_h (s : ByteArray) (w : World) (hs : s.size ≤ 2000000) (h0 : s.size ≠ 0) : Calls Try.prog 42 #[.int .u8 104, .string s] w fun e w' => e = .returned (.string (S (digL 104 (L s)))) ∧ Below w.heap.size w w' := by
  have hne : ¬ L s = [] := by rw [empty_L]; exact h0
  have hemp : s.toList.isEmpty = false := by rw [toL, List.isEmpty_eq_false_iff]; exact hne
  have HKK : Hid (digL 104 (L s) = oS (cat 4 (L s))) := by unfold digL; rw [if_neg hne]; exact rfl
  obtain ⟨i0, hi0, hz0, hz1, hz2⟩ := infoByte2
  clear hne
  go_enter Try.func42, Try.ntmps42
  go_wp2
  go_loopw [6, 7, 8] (fun ov iv fv wr => ∃ (i : Nat) (b : List UInt8) (ao : Option Addr) (cap : Nat), i ≤ s.size ∧ iv = .int .i64 i ∧ ov = .slice ao b.length cap ∧ Hid (cat 4 ((L s).take i) = some b) ∧ Hid (wr.ownsRow w.heap.size 5 1 (.slice ao b.length cap) b.length (Lib.byteCells b)) ∧ Hid (Below w.heap.size w wr)) (fun _ iv _ _ => s.size - (intOf iv).toNat)
  case atStart => exact ⟨0, [], none, 0, Nat.zero_le _, rfl, rfl, rfl, World.ownsRow_nil _ _ _ _, Below.refl _ _⟩
  case round =>
    obtain ⟨i, b, ao, cap, hi, rfl, rfl, HC, HO, HB⟩ := hrel
    have hbl := cat_len HC.out
    have hbl2 : b.length ≤ 4 * i := by rw [hbl, List.length_take]; omega
    by_cases hlt : i < s.size
    · cases hd : dgt 4 s[i] with
      | none =>
        have HK : Hid (digL 104 (L s) = []) := by rw [HKK.out, cat_bad s i hlt hd]; exact rfl
        have hf : (S (oS (dgt 4 s[i]))).toList.isEmpty = true := by rw [hd, toL, L_S]; rfl
        clear hd hbl
        go_wp2_with (first | (go_at_call 53; refine (four_c s[i] _).mono ?_; rintro e w1 ⟨rfl, hb⟩))
        go_ret
        exact ⟨ret_str (by rw [HK.out]; rfl), bel HB.out (by assumption)⟩
      | some d =>
        have hdl := dgt_len hd
        have hfn : (S d).toList.isEmpty = false := by rw [toL, L_S, List.isEmpty_eq_false_iff]; intro e; rw [e] at hdl; cases hdl
        have hos : oS (dgt 4 s[i]) = d := by rw [hd]; rfl
        have HC2 : Hid (cat 4 ((L s).take (i + 1)) = some (b ++ d)) := by rw [take_snoc s i hlt]; exact cat_snoc HC.out hd
        have hds : (S d).size = 4 := by rw [size_S, hdl]
        clear hd hbl
        go_wp2_with (first
          | (go_at_call 53; refine (four_c s[i] _).mono ?_; rintro e w1 ⟨rfl, hb⟩; rw [hos])
          | (at_builtin; refine Lib.wpList_append_own_string _ rfl (.tmp 68) (.tmp 69) 112 9 rfl w.heap.size 5 i0 Try.underlying112 Try.underlying9 hi0 hz0 hz1 hz2 _ _ _ rfl (owns_keep hb HO.out) (S d) rfl ?c3 ?c4 ?c5 ?_))
        case c3 => unfold maxLen; omega
        case c4 => omega
        case c5 => exact Nat.le_trans HB.out.size hb.size
        intro v' w2 hown hgrow _
        obtain ⟨ao2, cap2, rfl⟩ := slice_of hown
        go_wp2
        go_roundw
        case rel =>
          refine ⟨i + 1, b ++ d, ao2, cap2, by omega, by go_num, by rw [List.length_append, hdl], HC2, ?_, (bel HB.out hb).grown hgrow (Nat.le_trans HB.out.size hb.size) (fun k hk => (World.ownsRow.lt HO.out k hk).1)⟩
          rw [List.length_append, hdl, byteCells_app]; exact hown
        case measure => simp [intOf]; omega
    · have hie : i = s.size := by omega
      subst hie
      have hc := HC.out
      rw [take_all s _ (Nat.le_refl _)] at hc
      have hpos : 0 < b.length := by rw [cat_len hc, len_L]; omega
      have HK : Hid (digL 104 (L s) = b) := by rw [HKK.out, hc]; exact rfl
      obtain ⟨g, cp, hv, hg1, hg2, hg3, hg4⟩ := own_some HO.out hpos
      injection hv with hv1 hv2 hv3
      subst hv1
      clear hv2
      subst hv3
      have hcv := conv_own (w := wr) (g := g) (cap := cap) (b := b) rfl hg4
      clear hc hbl
      go_wp2
      go_ret
      exact ⟨ret_str (by rw [HK.out]), HB.out⟩
end Go.Proofs.Ytpnhefjiobnelaa

/- Layer 2, the reference: the bits of digits. -/
namespace Go.Proofs.Ytpnhefjiobnelaa
open Go.RowKit Lg
set_option linter.unusedVariables false
set_option linter.unusedSimpArgs false

set_option maxHeartbeats 4000000 in
theorem digits_b (s : ByteArray) (w : World) (hs : s.size ≤ 2000000) (h0 : s.size ≠ 0) : Calls Try.prog 42 #[.int .u8 98, .string s] w fun e w' => e = .returned (.string (S (digL 98 (L s)))) ∧ Below w.heap.size w w' := by
  have hne : ¬ L s = [] := by rw [empty_L]; exact h0
  have hemp : s.toList.isEmpty = false := by rw [toL, List.isEmpty_eq_false_iff]; exact hne
  have HKK : Hid (digL 98 (L s) = oS (cat 1 (L s))) := by unfold digL; rw [if_neg hne]; exact rfl
  obtain ⟨i0, hi0, hz0, hz1, hz2⟩ := infoByte2
  clear hne
  go_enter Try.func42, Try.ntmps42
  go_wp2
  go_loopw [6, 7, 8] (fun ov iv fv wr => ∃ (i : Nat) (b : List UInt8) (ao : Option Addr) (cap : Nat), i ≤ s.size ∧ iv = .int .i64 i ∧ ov = .slice ao b.length cap ∧ Hid (cat 1 ((L s).take i) = some b) ∧ Hid (wr.ownsRow w.heap.size 5 1 (.slice ao b.length cap) b.length (Lib.byteCells b)) ∧ Hid (Below w.heap.size w wr)) (fun _ iv _ _ => s.size - (intOf iv).toNat)
  case atStart => exact ⟨0, [], none, 0, Nat.zero_le _, rfl, rfl, rfl, World.ownsRow_nil _ _ _ _, Below.refl _ _⟩
  case round =>
    obtain ⟨i, b, ao, cap, hi, rfl, rfl, HC, HO, HB⟩ := hrel
    have hbl := cat_len HC.out
    have hbl2 : b.length ≤ 1 * i := by rw [hbl, List.length_take]; omega
    by_cases hlt : i < s.size
    · have hex := ext_one s i hlt
      have hiI : (i : Int) + 1 ≤ (s.size : Int) := by omega
      have hff : (⟨#[s[i]]⟩ : ByteArray).toList.isEmpty = false := by rw [toL]; rfl
      have hf1 : (⟨#[s[i]]⟩ : ByteArray).size = 1 := rfl
      have hcb : ∀ d : UInt8, (((s[i].toNat : Nat) : Int) != ((d.toNat : Nat) : Int)) = !(s[i] == d) := fun d => by
        show (!(((s[i].toNat : Nat) : Int) == ((d.toNat : Nat) : Int))) = _
        rw [cb]
      by_cases hbit : bitB s[i] = true
      · have hd := dgt1 hbit
        have HC2 : Hid (cat 1 ((L s).take (i + 1)) = some (b ++ [s[i]])) := by rw [take_snoc s i hlt]; exact cat_snoc HC.out hd
        have hcase : s[i] = 48 ∨ s[i] = 49 ∨ s[i] = 120 ∨ s[i] = 122 := by simp [bitB] at hbit; rcases hbit with ((h | h) | h) | h <;> simp [h]
        clear hd hbl hbit
        have hrest : Hid (∀ (w1 w2 : World) (v' : Value), Below wr.heap.size wr w1 → w2.ownsRow w.heap.size 5 1 v' (b.length + 1) (Lib.byteCells b ++ Lib.strCells ⟨#[s[i]]⟩) → w1.grownBy w2 (Value.ownBlock (.slice ao b.length cap)) → ∃ ao2 cap2, v' = .slice ao2 (b ++ [s[i]]).length cap2 ∧ w2.ownsRow w.heap.size 5 1 (.slice ao2 (b ++ [s[i]]).length cap2) (b ++ [s[i]]).length (Lib.byteCells (b ++ [s[i]])) ∧ Below w.heap.size w w2) := by
          intro w1 w2 v' hb hown hgrow
          obtain ⟨ao2, cap2, rfl⟩ := slice_of hown
          refine ⟨ao2, cap2, by rw [List.length_append]; rfl, ?_, (bel HB.out hb).grown hgrow (Nat.le_trans HB.out.size hb.size) (fun k hk => (World.ownsRow.lt HO.out k hk).1)⟩
          rw [List.length_append, byteCells_app]; exact hown
        rcases hcase with h | h | h | h
        · have t48 : (((s[i].toNat : Nat) : Int) != 48) = false := (hcb 48).trans (by rw [h]; rfl)
          clear h hcb
          go_wp2_with (first
            | (go_at_call 53; refine (four_c s[i] _).mono ?_; rintro e w1 ⟨rfl, hb⟩)
            | (at_builtin; refine Lib.wpList_append_own_string _ rfl (.tmp 68) (.tmp 69) 112 9 rfl w.heap.size 5 i0 Try.underlying112 Try.underlying9 hi0 hz0 hz1 hz2 _ _ _ rfl (owns_keep hb HO.out) ⟨#[s[i]]⟩ rfl ?c30 ?c40 ?c50 ?_))
          case c30 => rw [hf1]; unfold maxLen; omega
          case c40 => rw [hf1]; omega
          case c50 => exact Nat.le_trans HB.out.size hb.size
          intro v' w2 hown hgrow _
          obtain ⟨ao2, cap2, rfl, hown3, hbel⟩ := hrest.out w1 w2 v' hb hown hgrow
          go_wp2
          go_roundw
          case rel => exact ⟨i + 1, b ++ [s[i]], ao2, cap2, by omega, by go_num, rfl, HC2, hown3, hbel⟩
          case measure => simp [intOf]; omega
        · have t48 : (((s[i].toNat : Nat) : Int) != 48) = true := (hcb 48).trans (by rw [h]; rfl)
          have t49 : (((s[i].toNat : Nat) : Int) != 49) = false := (hcb 49).trans (by rw [h]; rfl)
          clear h hcb
          go_wp2_with (first
            | (go_at_call 53; refine (four_c s[i] _).mono ?_; rintro e w1 ⟨rfl, hb⟩)
            | (at_builtin; refine Lib.wpList_append_own_string _ rfl (.tmp 68) (.tmp 69) 112 9 rfl w.heap.size 5 i0 Try.underlying112 Try.underlying9 hi0 hz0 hz1 hz2 _ _ _ rfl (owns_keep hb HO.out) ⟨#[s[i]]⟩ rfl ?c31 ?c41 ?c51 ?_))
          case c31 => rw [hf1]; unfold maxLen; omega
          case c41 => rw [hf1]; omega
          case c51 => exact Nat.le_trans HB.out.size hb.size
          intro v' w2 hown hgrow _
          obtain ⟨ao2, cap2, rfl, hown3, hbel⟩ := hrest.out w1 w2 v' hb hown hgrow
          go_wp2
          go_roundw
          case rel => exact ⟨i + 1, b ++ [s[i]], ao2, cap2, by omega, by go_num, rfl, HC2, hown3, hbel⟩
          case measure => simp [intOf]; omega
        · have t48 : (((s[i].toNat : Nat) : Int) != 48) = true := (hcb 48).trans (by rw [h]; rfl)
          have t49 : (((s[i].toNat : Nat) : Int) != 49) = true := (hcb 49).trans (by rw [h]; rfl)
          have t120 : (((s[i].toNat : Nat) : Int) != 120) = false := (hcb 120).trans (by rw [h]; rfl)
          clear h hcb
          go_wp2_with (first
            | (go_at_call 53; refine (four_c s[i] _).mono ?_; rintro e w1 ⟨rfl, hb⟩)
            | (at_builtin; refine Lib.wpList_append_own_string _ rfl (.tmp 68) (.tmp 69) 112 9 rfl w.heap.size 5 i0 Try.underlying112 Try.underlying9 hi0 hz0 hz1 hz2 _ _ _ rfl (owns_keep hb HO.out) ⟨#[s[i]]⟩ rfl ?c32 ?c42 ?c52 ?_))
          case c32 => rw [hf1]; unfold maxLen; omega
          case c42 => rw [hf1]; omega
          case c52 => exact Nat.le_trans HB.out.size hb.size
          intro v' w2 hown hgrow _
          obtain ⟨ao2, cap2, rfl, hown3, hbel⟩ := hrest.out w1 w2 v' hb hown hgrow
          go_wp2
          go_roundw
          case rel => exact ⟨i + 1, b ++ [s[i]], ao2, cap2, by omega, by go_num, rfl, HC2, hown3, hbel⟩
          case measure => simp [intOf]; omega
        · have t48 : (((s[i].toNat : Nat) : Int) != 48) = true := (hcb 48).trans (by rw [h]; rfl)
          have t49 : (((s[i].toNat : Nat) : Int) != 49) = true := (hcb 49).trans (by rw [h]; rfl)
          have t120 : (((s[i].toNat : Nat) : Int) != 120) = true := (hcb 120).trans (by rw [h]; rfl)
          have t122 : (((s[i].toNat : Nat) : Int) != 122) = false := (hcb 122).trans (by rw [h]; rfl)
          clear h hcb
          go_wp2_with (first
            | (go_at_call 53; refine (four_c s[i] _).mono ?_; rintro e w1 ⟨rfl, hb⟩)
            | (at_builtin; refine Lib.wpList_append_own_string _ rfl (.tmp 68) (.tmp 69) 112 9 rfl w.heap.size 5 i0 Try.underlying112 Try.underlying9 hi0 hz0 hz1 hz2 _ _ _ rfl (owns_keep hb HO.out) ⟨#[s[i]]⟩ rfl ?c33 ?c43 ?c53 ?_))
          case c33 => rw [hf1]; unfold maxLen; omega
          case c43 => rw [hf1]; omega
          case c53 => exact Nat.le_trans HB.out.size hb.size
          intro v' w2 hown hgrow _
          obtain ⟨ao2, cap2, rfl, hown3, hbel⟩ := hrest.out w1 w2 v' hb hown hgrow
          go_wp2
          go_roundw
          case rel => exact ⟨i + 1, b ++ [s[i]], ao2, cap2, by omega, by go_num, rfl, HC2, hown3, hbel⟩
          case measure => simp [intOf]; omega
      · have hd : dgt 1 s[i] = none := dgt1_none (by simpa using hbit)
        have HK : Hid (digL 98 (L s) = []) := by rw [HKK.out, cat_bad s i hlt hd]; exact rfl
        have hb4 : s[i] ≠ 48 ∧ s[i] ≠ 49 ∧ s[i] ≠ 120 ∧ s[i] ≠ 122 := by
          refine ⟨?_, ?_, ?_, ?_⟩ <;> (intro e; rw [e] at hbit; exact hbit rfl)
        have t48 : (((s[i].toNat : Nat) : Int) != 48) = true := (hcb 48).trans (by simpa using hb4.1)
        have t49 : (((s[i].toNat : Nat) : Int) != 49) = true := (hcb 49).trans (by simpa using hb4.2.1)
        have t120 : (((s[i].toNat : Nat) : Int) != 120) = true := (hcb 120).trans (by simpa using hb4.2.2.1)
        have t122 : (((s[i].toNat : Nat) : Int) != 122) = true := (hcb 122).trans (by simpa using hb4.2.2.2)
        clear hd hbl hbit hb4 hcb
        go_wp2_with (first | (go_at_call 53; refine (four_c s[i] _).mono ?_; rintro e w1 ⟨rfl, hb⟩))
        go_ret
        exact ⟨ret_str (by rw [HK.out]; rfl), bel HB.out (by assumption)⟩
    · have hie : i = s.size := by omega
      subst hie
      have hc := HC.out
      rw [take_all s _ (Nat.le_refl _)] at hc
      have hpos : 0 < b.length := by rw [cat_len hc, len_L]; omega
      have HK : Hid (digL 98 (L s) = b) := by rw [HKK.out, hc]; exact rfl
      obtain ⟨g, cp, hv, hg1, hg2, hg3, hg4⟩ := own_some HO.out hpos
      injection hv with hv1 hv2 hv3
      subst hv1
      clear hv2
      subst hv3
      have hcv := conv_own (w := wr) (g := g) (cap := cap) (b := b) rfl hg4
      clear hc hbl
      go_wp2
      go_ret
      exact ⟨ret_str (by rw [HK.out]), HB.out⟩
end Go.Proofs.Ytpnhefjiobnelaa

/- Layer 2, the reference: the bits of digits. -/
namespace Go.Proofs.Ytpnhefjiobnelaa
open Go.RowKit Lg
set_option linter.unusedVariables false
set_option linter.unusedSimpArgs false

set_option maxHeartbeats 4000000 in
theorem digits_o (c : UInt8) (s : ByteArray) (w : World) (hs : s.size ≤ maxLen) (h0 : s.size ≠ 0) (c1 : ¬ c = 100) (c2 : ¬ c = 98) (c3 : ¬ c = 104) : Calls Try.prog 42 #[.int .u8 c.toNat, .string s] w fun e w' => e = .returned (.string (S (digL c (L s)))) ∧ Below w.heap.size w w' := by
  unfold maxLen at hs
  have hne : ¬ L s = [] := by rw [empty_L]; exact h0
  have hemp : s.toList.isEmpty = false := by rw [toL, List.isEmpty_eq_false_iff]; exact hne
  have HK : Hid (digL c (L s) = []) := by unfold digL; rw [if_neg hne, if_neg c1, if_neg c2, if_neg c3]; exact rfl
  have e1 : (((c.toNat : Nat) : Int) == 100) = false := (cb c 100).trans (by simpa using c1)
  have e2 : (((c.toNat : Nat) : Int) == 98) = false := (cb c 98).trans (by simpa using c2)
  have e3 : (((c.toNat : Nat) : Int) == 104) = false := (cb c 104).trans (by simpa using c3)
  have f2 : (((c.toNat : Nat) : Int) != 98) = true := by show (!(((c.toNat : Nat) : Int) == 98)) = true; rw [e2]; rfl
  have f3 : (((c.toNat : Nat) : Int) != 104) = true := by show (!(((c.toNat : Nat) : Int) == 104)) = true; rw [e3]; rfl
  have hpos : 0 < s.size := by omega
  clear hne c1 c2 c3
  go_enter Try.func42, Try.ntmps42
  go_wp2
  go_loopw [7] (fun iv wr => iv = .int .i64 0 ∧ wr = w) (fun _ _ => 0)
  case atStart => exact ⟨rfl, rfl⟩
  case round =>
    obtain ⟨rfl, rfl⟩ := hrel
    cases hf : (S (oS (dgt 4 s[0]))).toList.isEmpty with
    | true =>
      go_wp2_with (first | (go_at_call 53; refine (four_c s[0] _).mono ?_; rintro e w1 ⟨rfl, hb⟩))
      go_ret
      exact ⟨ret_str (by rw [HK.out]; rfl), by assumption⟩
    | false =>
      go_wp2_with (first | (go_at_call 53; refine (four_c s[0] _).mono ?_; rintro e w1 ⟨rfl, hb⟩))
      go_ret
      exact ⟨ret_str (by rw [HK.out]; rfl), by assumption⟩

theorem digits_c (c : UInt8) (s : ByteArray) (w : World) (hs : s.size ≤ 2000000) : Calls Try.prog 42 #[.int .u8 c.toNat, .string s] w fun e w' => e = .returned (.string (S (digL c (L s)))) ∧ Below w.heap.size w w' := by
  have hm : s.size ≤ maxLen := by unfold maxLen; omega
  by_cases h0 : s.size = 0
  · exact digits_e c s w h0
  · by_cases c1 : c = 100
    · subst c1; exact digits_d s w hm h0
    · by_cases c2 : c = 98
      · subst c2; exact digits_b s w hs h0
      · by_cases c3 : c = 104
        · subst c3; exact digits_h s w hs h0
        · exact digits_o c s w hm h0 c1 c2 c3
end Go.Proofs.Ytpnhefjiobnelaa
