/- Layer 2, the reference: digits, whole numbers, four bits. -/
import Derived.Test.YthdhmlojihpfkaaGreatGX
import Derived.Test.YthdhmlojihpfkaaGreatGM
namespace Go.Proofs.YthdhmlojihpfkaaGreat
open Go.RowKit Lg
set_option linter.unusedVariables false
set_option linter.unusedSimpArgs false

set_option maxHeartbeats 400000 in
theorem rdigit_z (n : Int) (w : World) : Calls Tryz.prog 46 #[.int .u8 n] w fun e w' => e = .returned (.bool (decide (48 ≤ n ∧ n ≤ 57))) ∧ w' = w := by
  go_enter Tryz.func46, Tryz.ntmps46
  go_wp2
  all_goals (go_ret; refine ⟨ret_bool ?_, rfl⟩)
  all_goals first | rfl | (rw [Bool.eq_iff_iff]; simp only [Bool.or_eq_true, Bool.and_eq_true, decide_eq_true_eq, beq_iff_eq]; omega) | (simp [*] <;> omega)
theorem rdigit_c (c : UInt8) (w : World) : Calls Tryz.prog 46 #[.int .u8 c.toNat] w fun e w' => e = .returned (.bool (digB c)) ∧ w' = w := by
  rw [digB_iff]; exact rdigit_z _ w

set_option maxHeartbeats 4000000 in
theorem decimal_c (s : ByteArray) (m : Nat) (b : Bool) (w : World) (hs : s.size ≤ maxLen) (hm : m ≤ 4294967295) :
    Calls Tryz.prog 60 #[.string s, .int .i64 m, .bool b] w fun e w' => e = .returned (.int .i64 (decI m b (L s))) ∧ w' = w := by
  unfold maxLen at hs
  by_cases hz : s.size = 0
  · have hse : L s = [] := (empty_L s).2 hz
    have hemp : s.toList.isEmpty = true := by rw [toL, hse]; rfl
    have HK : Hid (decI m b (L s) = -1) := by unfold decI; rw [if_pos (Or.inl hse)]; exact rfl
    clear hse
    go_enter Tryz.func60, Tryz.ntmps60
    go_wp2
    go_ret
    exact ⟨ret_int (by rw [HK.out]), rfl⟩
  · have hpos : 0 < s.size := by omega
    have hne : ¬ L s = [] := by rw [empty_L]; exact hz
    have hemp : s.toList.isEmpty = false := by rw [toL, List.isEmpty_eq_false_iff]; exact hne
    cases b with
    | true =>
      have HK : Hid (decI m true (L s) = whI m (L s)) := by unfold decI; rw [if_neg (by simp [hne])]; exact rfl
      clear hne
      go_enter Tryz.func60, Tryz.ntmps60
      go_wp2
      go_loop [7, 8] (fun nv i => ∃ k n : Nat, k ≤ s.size ∧ i = .int .i64 k ∧ nv = .int .i64 n ∧ n ≤ m ∧ Hid (whF m 0 (L s) = whF m n ((L s).drop k))) (fun _ i => s.size - (intOf i).toNat)
      case atStart => exact ⟨0, 0, Nat.zero_le _, rfl, rfl, Nat.zero_le _, rfl⟩
      case round =>
        obtain ⟨k, n, hk, rfl, rfl, hn, HN⟩ := hrel
        by_cases hlt : k < s.size
        · have hdr := drop_cons s k hlt
          by_cases hd : digB s[k] = true
          · have hd2 := hd
            rw [digB_iff] at hd2
            have hd3 : 48 ≤ ((s[k].toNat : Nat) : Int) ∧ ((s[k].toNat : Nat) : Int) ≤ 57 := of_decide_eq_true hd2
            obtain ⟨d, hdd⟩ : ∃ d : Nat, (s[k].toNat : Nat) = 48 + d := ⟨s[k].toNat - 48, by omega⟩
            have hd9 : d ≤ 9 := by omega
            have e1 : ((s[k].toNat : Nat) : Int) - 48 = (d : Int) := by omega
            have hst : whF m 0 (L s) = if 10 * n + d ≤ m then whF m (10 * n + d) ((L s).drop (k + 1)) else none := by
              rw [HN.out, hdr]; simp only [whF]; rw [if_pos hd, show s[k].toNat - 48 = d by omega]
            have HS : Hid _ := hst
            clear hst hdr hdd hd2
            by_cases hle : 10 * n + d ≤ m
            · go_wp2_with (go_at_call 46; refine (rdigit_c s[k] _).mono ?_; rintro e w' ⟨rfl, rfl⟩)
              go_round
              case rel => exact ⟨k + 1, 10 * n + d, by omega, by go_num, by go_num, hle, by have := HS.out; rw [if_pos hle] at this; exact this⟩
              case measure => simp [intOf]; omega
            · go_wp2_with (go_at_call 46; refine (rdigit_c s[k] _).mono ?_; rintro e w' ⟨rfl, rfl⟩)
              go_ret
              exact ⟨ret_int (by rw [HK.out, whI_none (by have := HS.out; rw [if_neg hle] at this; exact this)]), rfl⟩
          · have hd' : digB s[k] = false := by simpa using hd
            have HS : Hid (whF m 0 (L s) = none) := by rw [HN.out, hdr]; simp only [whF]; rw [if_neg hd]; exact rfl
            clear hdr
            go_wp2_with (go_at_call 46; refine (rdigit_c s[k] _).mono ?_; rintro e w' ⟨rfl, rfl⟩)
            go_ret
            exact ⟨ret_int (by rw [HK.out, whI_none HS.out]), rfl⟩
        · have HS : Hid (whF m 0 (L s) = some n) := by rw [HN.out, drop_all s k (by omega)]; exact rfl
          go_wp2
          go_ret
          exact ⟨ret_int (by rw [HK.out, whI_some HS.out]), rfl⟩
    | false =>
      by_cases h10 : 10 < s.size
      · have HK : Hid (decI m false (L s) = -1) := by unfold decI; rw [if_pos (Or.inr ⟨rfl, Or.inl (by rw [len_L]; exact h10)⟩)]; exact rfl
        clear hne
        go_enter Tryz.func60, Tryz.ntmps60
        go_wp2
        go_ret
        exact ⟨ret_int (by rw [HK.out]), rfl⟩
      · by_cases hA : 1 < s.size ∧ hd0 (L s) = 48
        · have HK : Hid (decI m false (L s) = -1) := by unfold decI; rw [if_pos (Or.inr ⟨rfl, Or.inr ⟨by rw [len_L]; exact hA.1, hA.2⟩⟩)]; exact rfl
          obtain ⟨hA1, hA2⟩ := hA
          have hA3 : (((s[0].toNat : Nat) : Int) == 48) = true := by have := headI s (by omega) 48; rw [hA2] at this; exact this
          clear hA2 hne
          go_enter Tryz.func60, Tryz.ntmps60
          go_wp2
          go_ret
          exact ⟨ret_int (by rw [HK.out]), rfl⟩
        · have HK : Hid (decI m false (L s) = whI m (L s)) := by
            unfold decI
            rw [if_neg (by rw [len_L]; intro e; rcases e with e | ⟨_, e | e⟩; exact hne e; exact h10 e; exact hA e)]; exact rfl
          have hA' : s.size ≤ 1 ∨ (1 < s.size ∧ ∃ hp : 0 < s.size, (((s[0].toNat : Nat) : Int) == 48) = false) := by
            by_cases h1 : s.size ≤ 1
            · exact Or.inl h1
            · refine Or.inr ⟨by omega, by omega, ?_⟩
              have := headI s (by omega) 48
              refine this.trans ?_
              rw [beq_eq_false_iff_ne]; intro e; exact hA ⟨by omega, e⟩
          clear hA hne
          rcases hA' with h1 | ⟨h1, hp, hb0⟩
          · go_enter Tryz.func60, Tryz.ntmps60
            go_wp2
            go_loop [7, 8] (fun nv i => ∃ k n : Nat, k ≤ s.size ∧ i = .int .i64 k ∧ nv = .int .i64 n ∧ n ≤ m ∧ Hid (whF m 0 (L s) = whF m n ((L s).drop k))) (fun _ i => s.size - (intOf i).toNat)
            case atStart => exact ⟨0, 0, Nat.zero_le _, rfl, rfl, Nat.zero_le _, rfl⟩
            case round =>
              obtain ⟨k, n, hk, rfl, rfl, hn, HN⟩ := hrel
              by_cases hlt : k < s.size
              · have hdr := drop_cons s k hlt
                by_cases hd : digB s[k] = true
                · have hd2 := hd
                  rw [digB_iff] at hd2
                  have hd3 : 48 ≤ ((s[k].toNat : Nat) : Int) ∧ ((s[k].toNat : Nat) : Int) ≤ 57 := of_decide_eq_true hd2
                  obtain ⟨d, hdd⟩ : ∃ d : Nat, (s[k].toNat : Nat) = 48 + d := ⟨s[k].toNat - 48, by omega⟩
                  have hd9 : d ≤ 9 := by omega
                  have e1 : ((s[k].toNat : Nat) : Int) - 48 = (d : Int) := by omega
                  have hst : whF m 0 (L s) = if 10 * n + d ≤ m then whF m (10 * n + d) ((L s).drop (k + 1)) else none := by
                    rw [HN.out, hdr]; simp only [whF]; rw [if_pos hd, show s[k].toNat - 48 = d by omega]
                  have HS : Hid _ := hst
                  clear hst hdr hdd hd2
                  by_cases hle : 10 * n + d ≤ m
                  · go_wp2_with (go_at_call 46; refine (rdigit_c s[k] _).mono ?_; rintro e w' ⟨rfl, rfl⟩)
                    go_round
                    case rel => exact ⟨k + 1, 10 * n + d, by omega, by go_num, by go_num, hle, by have := HS.out; rw [if_pos hle] at this; exact this⟩
                    case measure => simp [intOf]; omega
                  · go_wp2_with (go_at_call 46; refine (rdigit_c s[k] _).mono ?_; rintro e w' ⟨rfl, rfl⟩)
                    go_ret
                    exact ⟨ret_int (by rw [HK.out, whI_none (by have := HS.out; rw [if_neg hle] at this; exact this)]), rfl⟩
                · have hd' : digB s[k] = false := by simpa using hd
                  have HS : Hid (whF m 0 (L s) = none) := by rw [HN.out, hdr]; simp only [whF]; rw [if_neg hd]; exact rfl
                  clear hdr
                  go_wp2_with (go_at_call 46; refine (rdigit_c s[k] _).mono ?_; rintro e w' ⟨rfl, rfl⟩)
                  go_ret
                  exact ⟨ret_int (by rw [HK.out, whI_none HS.out]), rfl⟩
              · have HS : Hid (whF m 0 (L s) = some n) := by rw [HN.out, drop_all s k (by omega)]; exact rfl
                go_wp2
                go_ret
                exact ⟨ret_int (by rw [HK.out, whI_some HS.out]), rfl⟩
          · go_enter Tryz.func60, Tryz.ntmps60
            go_wp2
            go_loop [7, 8] (fun nv i => ∃ k n : Nat, k ≤ s.size ∧ i = .int .i64 k ∧ nv = .int .i64 n ∧ n ≤ m ∧ Hid (whF m 0 (L s) = whF m n ((L s).drop k))) (fun _ i => s.size - (intOf i).toNat)
            case atStart => exact ⟨0, 0, Nat.zero_le _, rfl, rfl, Nat.zero_le _, rfl⟩
            case round =>
              obtain ⟨k, n, hk, rfl, rfl, hn, HN⟩ := hrel
              by_cases hlt : k < s.size
              · have hdr := drop_cons s k hlt
                by_cases hd : digB s[k] = true
                · have hd2 := hd
                  rw [digB_iff] at hd2
                  have hd3 : 48 ≤ ((s[k].toNat : Nat) : Int) ∧ ((s[k].toNat : Nat) : Int) ≤ 57 := of_decide_eq_true hd2
                  obtain ⟨d, hdd⟩ : ∃ d : Nat, (s[k].toNat : Nat) = 48 + d := ⟨s[k].toNat - 48, by omega⟩
                  have hd9 : d ≤ 9 := by omega
                  have e1 : ((s[k].toNat : Nat) : Int) - 48 = (d : Int) := by omega
                  have hst : whF m 0 (L s) = if 10 * n + d ≤ m then whF m (10 * n + d) ((L s).drop (k + 1)) else none := by
                    rw [HN.out, hdr]; simp only [whF]; rw [if_pos hd, show s[k].toNat - 48 = d by omega]
                  have HS : Hid _ := hst
                  clear hst hdr hdd hd2
                  by_cases hle : 10 * n + d ≤ m
                  · go_wp2_with (go_at_call 46; refine (rdigit_c s[k] _).mono ?_; rintro e w' ⟨rfl, rfl⟩)
                    go_round
                    case rel => exact ⟨k + 1, 10 * n + d, by omega, by go_num, by go_num, hle, by have := HS.out; rw [if_pos hle] at this; exact this⟩
                    case measure => simp [intOf]; omega
                  · go_wp2_with (go_at_call 46; refine (rdigit_c s[k] _).mono ?_; rintro e w' ⟨rfl, rfl⟩)
                    go_ret
                    exact ⟨ret_int (by rw [HK.out, whI_none (by have := HS.out; rw [if_neg hle] at this; exact this)]), rfl⟩
                · have hd' : digB s[k] = false := by simpa using hd
                  have HS : Hid (whF m 0 (L s) = none) := by rw [HN.out, hdr]; simp only [whF]; rw [if_neg hd]; exact rfl
                  clear hdr
                  go_wp2_with (go_at_call 46; refine (rdigit_c s[k] _).mono ?_; rintro e w' ⟨rfl, rfl⟩)
                  go_ret
                  exact ⟨ret_int (by rw [HK.out, whI_none HS.out]), rfl⟩
              · have HS : Hid (whF m 0 (L s) = some n) := by rw [HN.out, drop_all s k (by omega)]; exact rfl
                go_wp2
                go_ret
                exact ⟨ret_int (by rw [HK.out, whI_some HS.out]), rfl⟩

set_option maxRecDepth 100000 in
theorem four_conv (c : UInt8) (w : World) : (convert 128 9 (.slice (some ⟨w.heap.size, 0, none⟩) 4 4)).run Tryz.prog (w.alloc (.cells #[.int .u8 c.toNat, .int .u8 c.toNat, .int .u8 c.toNat, .int .u8 c.toNat] 5)) = .ok (.string (S [c, c, c, c])) (w.alloc (.cells #[.int .u8 c.toNat, .int .u8 c.toNat, .int .u8 c.toNat, .int .u8 c.toNat] 5)) := by
  have h := run_convert_bytes_arg (P := Tryz.prog) (w.alloc (.cells #[.int .u8 c.toNat, .int .u8 c.toNat, .int .u8 c.toNat, .int .u8 c.toNat] 5)) 128 5 Tryz.underlying128 Tryz.underlying5 w.heap.size 0 4 4 [(c.toNat : Int), (c.toNat : Int), (c.toNat : Int), (c.toNat : Int)] rfl (fun i hi => by
    rw [World.cell?_alloc_at _ _ _ _ rfl]
    match i, hi with
    | 0, _ => rfl
    | 1, _ => rfl
    | 2, _ => rfl
    | 3, _ => rfl) 9 Tryz.underlying9
  rw [h]; congr 2; apply L_inj; rw [L_S, L, strOfNums_data]; simp
set_option maxHeartbeats 4000000 in
theorem four_x (c : UInt8) (w : World) (hc : c = 120 ∨ c = 122) : Calls Tryz.prog 83 #[.int .u8 c.toNat] w fun e w' => e = .returned (.string (S (oS (dgt 4 c)))) ∧ Below w.heap.size w w' := by
  rcases hc with rfl | rfl
  · have h1 : (convert 128 9 (.slice (some ⟨w.heap.size, 0, none⟩) 4 4)).run Tryz.prog (w.alloc (.cells #[.int .u8 120, .int .u8 120, .int .u8 120, .int .u8 120] 5)) = .ok (.string (S [120, 120, 120, 120])) (w.alloc (.cells #[.int .u8 120, .int .u8 120, .int .u8 120, .int .u8 120] 5)) := four_conv 120 w
    go_enter Tryz.func83, Tryz.ntmps83
    go_wp2_with (first | (go_at_call 46; refine (rdigit_z _ _).mono ?_; rintro e w' ⟨rfl, rfl⟩))
    go_ret
    exact ⟨rfl, belA (Below.refl _ _) _⟩
  · have h1 : (convert 128 9 (.slice (some ⟨w.heap.size, 0, none⟩) 4 4)).run Tryz.prog (w.alloc (.cells #[.int .u8 122, .int .u8 122, .int .u8 122, .int .u8 122] 5)) = .ok (.string (S [122, 122, 122, 122])) (w.alloc (.cells #[.int .u8 122, .int .u8 122, .int .u8 122, .int .u8 122] 5)) := four_conv 122 w
    go_enter Tryz.func83, Tryz.ntmps83
    go_wp2_with (first | (go_at_call 46; refine (rdigit_z _ _).mono ?_; rintro e w' ⟨rfl, hw⟩; have hw2 := hw.symm; subst hw2))
    go_ret
    exact ⟨rfl, belA (Below.refl _ _) _⟩
set_option maxHeartbeats 4000000 in
theorem four_n (c : UInt8) (w : World) (hv : hexV c = none) (hx : ¬ c = 120) (hz : ¬ c = 122) : Calls Tryz.prog 83 #[.int .u8 c.toNat] w fun e w' => e = .returned (.string (S (oS (dgt 4 c)))) ∧ Below w.heap.size w w' := by
  have HD : Hid (dgt 4 c = none) := by unfold dgt; rw [if_neg (by simp [hx, hz]), hv]; exact rfl
  have e1 : (((c.toNat : Nat) : Int) == 120) = false := by rw [beq_eq_false_iff_ne]; intro h; exact hx ((toI c 120).1 h)
  have e2 : (((c.toNat : Nat) : Int) == 122) = false := by rw [beq_eq_false_iff_ne]; intro h; exact hz ((toI c 122).1 h)
  obtain ⟨h1, h2, h3⟩ := hex_none hv
  clear hv hx hz
  rcases h2 with h2 | h2 <;> rcases h3 with h3 | h3
  all_goals
    go_enter Tryz.func83, Tryz.ntmps83
    go_wp2_with (first | (go_at_call 46; refine (rdigit_c c _).mono ?_; rintro e w' ⟨rfl, rfl⟩))
    all_goals (go_ret; exact ⟨ret_str (by rw [HD.out]; rfl), Below.refl _ _⟩)
set_option maxHeartbeats 8000000 in
theorem four_s (c : UInt8) (n : Nat) (w : World) (hv : hexV c = some n) : Calls Tryz.prog 83 #[.int .u8 c.toNat] w fun e w' => e = .returned (.string (S (oS (dgt 4 c)))) ∧ Below w.heap.size w w' := by
  have hc := hex_some hv
  clear hv
  rcases hc with rfl | rfl | rfl | rfl | rfl | rfl | rfl | rfl | rfl | rfl | rfl | rfl | rfl | rfl | rfl | rfl | rfl | rfl | rfl | rfl | rfl | rfl
  · go_enter Tryz.func83, Tryz.ntmps83
    go_wp2_with (first | (go_at_call 46; refine (rdigit_z _ _).mono ?_; rintro e w' ⟨rfl, rfl⟩) | (go_at_call 61; refine (rOf_c 0 4 _ (by omega) (by omega) (by omega)).mono ?_; rintro e w' ⟨rfl, hb⟩))
    go_ret
    exact ⟨ret_str (congrArg S (by decide)), by assumption⟩
  · go_enter Tryz.func83, Tryz.ntmps83
    go_wp2_with (first | (go_at_call 46; refine (rdigit_z _ _).mono ?_; rintro e w' ⟨rfl, rfl⟩) | (go_at_call 61; refine (rOf_c 1 4 _ (by omega) (by omega) (by omega)).mono ?_; rintro e w' ⟨rfl, hb⟩))
    go_ret
    exact ⟨ret_str (congrArg S (by decide)), by assumption⟩
  · go_enter Tryz.func83, Tryz.ntmps83
    go_wp2_with (first | (go_at_call 46; refine (rdigit_z _ _).mono ?_; rintro e w' ⟨rfl, rfl⟩) | (go_at_call 61; refine (rOf_c 2 4 _ (by omega) (by omega) (by omega)).mono ?_; rintro e w' ⟨rfl, hb⟩))
    go_ret
    exact ⟨ret_str (congrArg S (by decide)), by assumption⟩
  · go_enter Tryz.func83, Tryz.ntmps83
    go_wp2_with (first | (go_at_call 46; refine (rdigit_z _ _).mono ?_; rintro e w' ⟨rfl, rfl⟩) | (go_at_call 61; refine (rOf_c 3 4 _ (by omega) (by omega) (by omega)).mono ?_; rintro e w' ⟨rfl, hb⟩))
    go_ret
    exact ⟨ret_str (congrArg S (by decide)), by assumption⟩
  · go_enter Tryz.func83, Tryz.ntmps83
    go_wp2_with (first | (go_at_call 46; refine (rdigit_z _ _).mono ?_; rintro e w' ⟨rfl, rfl⟩) | (go_at_call 61; refine (rOf_c 4 4 _ (by omega) (by omega) (by omega)).mono ?_; rintro e w' ⟨rfl, hb⟩))
    go_ret
    exact ⟨ret_str (congrArg S (by decide)), by assumption⟩
  · go_enter Tryz.func83, Tryz.ntmps83
    go_wp2_with (first | (go_at_call 46; refine (rdigit_z _ _).mono ?_; rintro e w' ⟨rfl, rfl⟩) | (go_at_call 61; refine (rOf_c 5 4 _ (by omega) (by omega) (by omega)).mono ?_; rintro e w' ⟨rfl, hb⟩))
    go_ret
    exact ⟨ret_str (congrArg S (by decide)), by assumption⟩
  · go_enter Tryz.func83, Tryz.ntmps83
    go_wp2_with (first | (go_at_call 46; refine (rdigit_z _ _).mono ?_; rintro e w' ⟨rfl, rfl⟩) | (go_at_call 61; refine (rOf_c 6 4 _ (by omega) (by omega) (by omega)).mono ?_; rintro e w' ⟨rfl, hb⟩))
    go_ret
    exact ⟨ret_str (congrArg S (by decide)), by assumption⟩
  · go_enter Tryz.func83, Tryz.ntmps83
    go_wp2_with (first | (go_at_call 46; refine (rdigit_z _ _).mono ?_; rintro e w' ⟨rfl, rfl⟩) | (go_at_call 61; refine (rOf_c 7 4 _ (by omega) (by omega) (by omega)).mono ?_; rintro e w' ⟨rfl, hb⟩))
    go_ret
    exact ⟨ret_str (congrArg S (by decide)), by assumption⟩
  · go_enter Tryz.func83, Tryz.ntmps83
    go_wp2_with (first | (go_at_call 46; refine (rdigit_z _ _).mono ?_; rintro e w' ⟨rfl, rfl⟩) | (go_at_call 61; refine (rOf_c 8 4 _ (by omega) (by omega) (by omega)).mono ?_; rintro e w' ⟨rfl, hb⟩))
    go_ret
    exact ⟨ret_str (congrArg S (by decide)), by assumption⟩
  · go_enter Tryz.func83, Tryz.ntmps83
    go_wp2_with (first | (go_at_call 46; refine (rdigit_z _ _).mono ?_; rintro e w' ⟨rfl, rfl⟩) | (go_at_call 61; refine (rOf_c 9 4 _ (by omega) (by omega) (by omega)).mono ?_; rintro e w' ⟨rfl, hb⟩))
    go_ret
    exact ⟨ret_str (congrArg S (by decide)), by assumption⟩
  · go_enter Tryz.func83, Tryz.ntmps83
    go_wp2_with (first | (go_at_call 46; refine (rdigit_z _ _).mono ?_; rintro e w' ⟨rfl, rfl⟩) | (go_at_call 61; refine (rOf_c 10 4 _ (by omega) (by omega) (by omega)).mono ?_; rintro e w' ⟨rfl, hb⟩))
    go_ret
    exact ⟨ret_str (congrArg S (by decide)), by assumption⟩
  · go_enter Tryz.func83, Tryz.ntmps83
    go_wp2_with (first | (go_at_call 46; refine (rdigit_z _ _).mono ?_; rintro e w' ⟨rfl, rfl⟩) | (go_at_call 61; refine (rOf_c 11 4 _ (by omega) (by omega) (by omega)).mono ?_; rintro e w' ⟨rfl, hb⟩))
    go_ret
    exact ⟨ret_str (congrArg S (by decide)), by assumption⟩
  · go_enter Tryz.func83, Tryz.ntmps83
    go_wp2_with (first | (go_at_call 46; refine (rdigit_z _ _).mono ?_; rintro e w' ⟨rfl, rfl⟩) | (go_at_call 61; refine (rOf_c 12 4 _ (by omega) (by omega) (by omega)).mono ?_; rintro e w' ⟨rfl, hb⟩))
    go_ret
    exact ⟨ret_str (congrArg S (by decide)), by assumption⟩
  · go_enter Tryz.func83, Tryz.ntmps83
    go_wp2_with (first | (go_at_call 46; refine (rdigit_z _ _).mono ?_; rintro e w' ⟨rfl, rfl⟩) | (go_at_call 61; refine (rOf_c 13 4 _ (by omega) (by omega) (by omega)).mono ?_; rintro e w' ⟨rfl, hb⟩))
    go_ret
    exact ⟨ret_str (congrArg S (by decide)), by assumption⟩
  · go_enter Tryz.func83, Tryz.ntmps83
    go_wp2_with (first | (go_at_call 46; refine (rdigit_z _ _).mono ?_; rintro e w' ⟨rfl, rfl⟩) | (go_at_call 61; refine (rOf_c 14 4 _ (by omega) (by omega) (by omega)).mono ?_; rintro e w' ⟨rfl, hb⟩))
    go_ret
    exact ⟨ret_str (congrArg S (by decide)), by assumption⟩
  · go_enter Tryz.func83, Tryz.ntmps83
    go_wp2_with (first | (go_at_call 46; refine (rdigit_z _ _).mono ?_; rintro e w' ⟨rfl, rfl⟩) | (go_at_call 61; refine (rOf_c 15 4 _ (by omega) (by omega) (by omega)).mono ?_; rintro e w' ⟨rfl, hb⟩))
    go_ret
    exact ⟨ret_str (congrArg S (by decide)), by assumption⟩
  · go_enter Tryz.func83, Tryz.ntmps83
    go_wp2_with (first | (go_at_call 46; refine (rdigit_z _ _).mono ?_; rintro e w' ⟨rfl, rfl⟩) | (go_at_call 61; refine (rOf_c 10 4 _ (by omega) (by omega) (by omega)).mono ?_; rintro e w' ⟨rfl, hb⟩))
    go_ret
    exact ⟨ret_str (congrArg S (by decide)), by assumption⟩
  · go_enter Tryz.func83, Tryz.ntmps83
    go_wp2_with (first | (go_at_call 46; refine (rdigit_z _ _).mono ?_; rintro e w' ⟨rfl, rfl⟩) | (go_at_call 61; refine (rOf_c 11 4 _ (by omega) (by omega) (by omega)).mono ?_; rintro e w' ⟨rfl, hb⟩))
    go_ret
    exact ⟨ret_str (congrArg S (by decide)), by assumption⟩
  · go_enter Tryz.func83, Tryz.ntmps83
    go_wp2_with (first | (go_at_call 46; refine (rdigit_z _ _).mono ?_; rintro e w' ⟨rfl, rfl⟩) | (go_at_call 61; refine (rOf_c 12 4 _ (by omega) (by omega) (by omega)).mono ?_; rintro e w' ⟨rfl, hb⟩))
    go_ret
    exact ⟨ret_str (congrArg S (by decide)), by assumption⟩
  · go_enter Tryz.func83, Tryz.ntmps83
    go_wp2_with (first | (go_at_call 46; refine (rdigit_z _ _).mono ?_; rintro e w' ⟨rfl, rfl⟩) | (go_at_call 61; refine (rOf_c 13 4 _ (by omega) (by omega) (by omega)).mono ?_; rintro e w' ⟨rfl, hb⟩))
    go_ret
    exact ⟨ret_str (congrArg S (by decide)), by assumption⟩
  · go_enter Tryz.func83, Tryz.ntmps83
    go_wp2_with (first | (go_at_call 46; refine (rdigit_z _ _).mono ?_; rintro e w' ⟨rfl, rfl⟩) | (go_at_call 61; refine (rOf_c 14 4 _ (by omega) (by omega) (by omega)).mono ?_; rintro e w' ⟨rfl, hb⟩))
    go_ret
    exact ⟨ret_str (congrArg S (by decide)), by assumption⟩
  · go_enter Tryz.func83, Tryz.ntmps83
    go_wp2_with (first | (go_at_call 46; refine (rdigit_z _ _).mono ?_; rintro e w' ⟨rfl, rfl⟩) | (go_at_call 61; refine (rOf_c 15 4 _ (by omega) (by omega) (by omega)).mono ?_; rintro e w' ⟨rfl, hb⟩))
    go_ret
    exact ⟨ret_str (congrArg S (by decide)), by assumption⟩
theorem four_c (c : UInt8) (w : World) : Calls Tryz.prog 83 #[.int .u8 c.toNat] w fun e w' => e = .returned (.string (S (oS (dgt 4 c)))) ∧ Below w.heap.size w w' := by
  by_cases hx : c = 120 ∨ c = 122
  · exact four_x c w hx
  · cases hv : hexV c with
    | none => exact four_n c w hv (fun h => hx (Or.inl h)) (fun h => hx (Or.inr h))
    | some n => exact four_s c n w hv
end Go.Proofs.YthdhmlojihpfkaaGreat
