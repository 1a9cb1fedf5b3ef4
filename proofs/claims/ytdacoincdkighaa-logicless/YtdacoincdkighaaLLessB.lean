/- The law LogicLess: its walk, where all is known, and where not. -/
import Derived.Test.YtdacoincdkighaaLLess1
namespace Go.Proofs.Ytdacoincdkighaa
open Go.RowKit Lg
set_option linter.unusedVariables false

set_option maxHeartbeats 8000000 in
set_option maxRecDepth 100000 in
theorem lessNS (op hide : Int) (v0 v1 v2 : ByteArray) (w : World) (z0 : v0.size ≤ maxLen) (z1 : v1.size ≤ maxLen) (z2 : v2.size ≤ maxLen) (a0 : vec (L v0) = true) (a1 : vec (L v1) = true) (a2 : vec (L v2) = true) (b0 : kno (L v0) = true) (b1 : kno (L v1) = true) (b2 : kno (L v2) = true) (h1 : op < 7 ∨ 12 < op) (h2 : op < 13 ∨ 27 < op) (hl : v0.size = v1.size) :
    Calls Try.prog 9 #[.int .i64 op, .agg #[.string v0, .string v1, .string v2], .int .i64 hide] w fun e w' => e = .returned (.bool true) ∧ Below w.heap.size w w' := by
  have l0 := vec_len a0
  rw [len_L] at l0
  obtain ⟨l0a, l0b⟩ := l0
  have l1 := vec_len a1
  rw [len_L] at l1
  obtain ⟨l1a, l1b⟩ := l1
  have l2 := vec_len a2
  rw [len_L] at l2
  obtain ⟨l2a, l2b⟩ := l2
  obtain ⟨c0, c1, c2⟩ := box_cells (box_alloc w v0 v1 v2)
  unfold boxS at c0 c1 c2
  have HL : Hid _ := hl
  clear hl
  have H1 : Hid _ := h1
  have H2 : Hid _ := h2
  clear h1 h2
  go_enter Try.func9, Try.ntmps9
  go_wp2
  go_loop [7] (fun i => ∃ k : Int, (k = 0 ∨ k = 1 ∨ k = 2 ∨ k = 3) ∧ i = .int .i64 k) (fun i => (3 - intOf i).toNat)
  case atStart => exact ⟨0, by omega, rfl⟩
  case round =>
    obtain ⟨k, hk, rfl⟩ := hrel
    rcases hk with rfl | rfl | rfl | rfl
    · go_wp2_with (first | (go_at_call 17; refine (may_c v0 _ z0).mono ?_; rintro e w9 ⟨rfl, hw1⟩; have hw2 := hw1.symm; subst hw2) | (go_at_call 32; refine (rknown_c v0 _ z0).mono ?_; rintro e w9 ⟨rfl, hw1⟩; have hw2 := hw1.symm; subst hw2))
      go_round
      case rel => exact ⟨1, by omega, rfl⟩
      case measure => simp [intOf]
    · go_wp2_with (first | (go_at_call 17; refine (may_c v1 _ z1).mono ?_; rintro e w9 ⟨rfl, hw1⟩; have hw2 := hw1.symm; subst hw2) | (go_at_call 32; refine (rknown_c v1 _ z1).mono ?_; rintro e w9 ⟨rfl, hw1⟩; have hw2 := hw1.symm; subst hw2))
      go_round
      case rel => exact ⟨2, by omega, rfl⟩
      case measure => simp [intOf]
    · go_wp2_with (first | (go_at_call 17; refine (may_c v2 _ z2).mono ?_; rintro e w9 ⟨rfl, hw1⟩; have hw2 := hw1.symm; subst hw2) | (go_at_call 32; refine (rknown_c v2 _ z2).mono ?_; rintro e w9 ⟨rfl, hw1⟩; have hw2 := hw1.symm; subst hw2))
      go_round
      case rel => exact ⟨3, by omega, rfl⟩
      case measure => simp [intOf]
    · clear c0 c1 c2
      have hcs := conv_str
      have h31 := i64_and31
      go_wp2
      go_loopw [9] (fun i wr => ∃ (k : Int) (u0 u1 u2 : ByteArray), (k = 0 ∨ k = 1 ∨ k = 2 ∨ k = 3) ∧ i = .int .i64 k ∧ Hid (wr.heap[w.heap.size + 1]? = some (boxS u0 u1 u2)) ∧ Hid (Below (w.heap.size + 1) (w.alloc (boxS v0 v1 v2)) wr) ∧ Hid (1 ≤ k → Gd (L u0) (L v0)) ∧ Hid (2 ≤ k → Gd (L u1) (L v1)) ∧ Hid (3 ≤ k → Gd (L u2) (L v2))) (fun i _ => (3 - intOf i).toNat)
      case atStart => exact ⟨0, ⟨#[]⟩, ⟨#[]⟩, ⟨#[]⟩, by omega, rfl, box2_start w v0 v1 v2, (Below.refl _ _).alloc (by simp) _, fun h => absurd h (by decide), fun h => absurd h (by decide), fun h => absurd h (by decide)⟩
      case round =>
        obtain ⟨k, u0, u1, u2, hk, rfl, hB, hb, HG0, HG1, HG2⟩ := hrel
        have hlt := box_lt hB.out
        have hbv : wr.heap[w.heap.size]? = some (boxS v0 v1 v2) := by rw [hb.out.block _ (by omega)]; exact box_alloc w v0 v1 v2
        obtain ⟨c0, c1, c2⟩ := box_cells hbv
        have HBV : Hid _ := hbv
        clear hbv
        rcases hk with rfl | rfl | rfl | rfl
        · go_wp2
          go_loopw [11] (fun kv w3 => ∃ (j : Nat) (f : Nat → UInt8), j ≤ v0.size ∧ kv = .int .i64 j ∧ Hid (BR w3 wr.heap.size v0.size f) ∧ Hid (Below wr.heap.size wr w3) ∧ Hid (∀ i, i < v0.size → Le1 (f i) ((L v0).getD i 0))) (fun kv _ => v0.size - (intOf kv).toNat)
          case atStart => exact ⟨0, _, Nat.zero_le _, rfl, BR.born _ _, born_below _ _, fun i _ => .inr rfl⟩
          case round =>
            obtain ⟨j, f, hj, rfl, hr, hb3, HLE⟩ := hrel
            by_cases hjl : j < v0.size
            · have hjI : (j : Int) < (v0.size : Int) := by omega
              have q1 := hr.out.cell j hjl
              have q2 := hr.out.frozen j hjl
              go_wp2
              all_goals
                go_roundw
                case rel =>
                  first
                    | exact ⟨j + 1, f, by omega, by go_num, hr, hb3, HLE⟩
                    | exact ⟨j + 1, _, by omega, by go_num, hr.out.set j 120, hb3.out.setCell (by simp) _, le_set HLE.out⟩
                case measure => simp [intOf]; omega
            · have hcb := fun cap => conv_back v0.size _ cap f _ hr.out
              have hB3 := (hb3.out.block _ hlt).trans hB.out
              have q1 := (box_cells hB3).1
              have q2 := box_frozen hB3 0
              have G := gd_str v0 f a0 HLE.out
              have HG : Hid _ := G
              have HB3 : Hid _ := hB3
              clear G hB3
              go_wp2
              go_roundw
              case rel =>
                have G := HG.out
                exact ⟨1, (S (tab v0.size f)), u1, u2, by omega, rfl, box_set0 HB3.out _, (hb.out.trans (hb3.out.mono (by omega))).setCell (by simp) _, fun _ => G, fun h => absurd h (by decide), fun h => absurd h (by decide)⟩
              case measure => simp [intOf]
        · go_wp2
          go_loopw [11] (fun kv w3 => ∃ (j : Nat) (f : Nat → UInt8), j ≤ v1.size ∧ kv = .int .i64 j ∧ Hid (BR w3 wr.heap.size v1.size f) ∧ Hid (Below wr.heap.size wr w3) ∧ Hid (∀ i, i < v1.size → Le1 (f i) ((L v1).getD i 0))) (fun kv _ => v1.size - (intOf kv).toNat)
          case atStart => exact ⟨0, _, Nat.zero_le _, rfl, BR.born _ _, born_below _ _, fun i _ => .inr rfl⟩
          case round =>
            obtain ⟨j, f, hj, rfl, hr, hb3, HLE⟩ := hrel
            by_cases hjl : j < v1.size
            · have hjI : (j : Int) < (v1.size : Int) := by omega
              have q1 := hr.out.cell j hjl
              have q2 := hr.out.frozen j hjl
              go_wp2
              all_goals
                go_roundw
                case rel =>
                  first
                    | exact ⟨j + 1, f, by omega, by go_num, hr, hb3, HLE⟩
                    | exact ⟨j + 1, _, by omega, by go_num, hr.out.set j 120, hb3.out.setCell (by simp) _, le_set HLE.out⟩
                case measure => simp [intOf]; omega
            · have hcb := fun cap => conv_back v1.size _ cap f _ hr.out
              have hB3 := (hb3.out.block _ hlt).trans hB.out
              have q1 := (box_cells hB3).2.1
              have q2 := box_frozen hB3 1
              have G := gd_str v1 f a1 HLE.out
              have HG : Hid _ := G
              have HB3 : Hid _ := hB3
              clear G hB3
              go_wp2
              go_roundw
              case rel =>
                have G := HG.out
                exact ⟨2, u0, (S (tab v1.size f)), u2, by omega, rfl, box_set1 HB3.out _, (hb.out.trans (hb3.out.mono (by omega))).setCell (by simp) _, fun _ => HG0.out (by decide), fun _ => G, fun h => absurd h (by decide)⟩
              case measure => simp [intOf]
        · go_wp2
          go_loopw [11] (fun kv w3 => ∃ (j : Nat) (f : Nat → UInt8), j ≤ v2.size ∧ kv = .int .i64 j ∧ Hid (BR w3 wr.heap.size v2.size f) ∧ Hid (Below wr.heap.size wr w3) ∧ Hid (∀ i, i < v2.size → Le1 (f i) ((L v2).getD i 0))) (fun kv _ => v2.size - (intOf kv).toNat)
          case atStart => exact ⟨0, _, Nat.zero_le _, rfl, BR.born _ _, born_below _ _, fun i _ => .inr rfl⟩
          case round =>
            obtain ⟨j, f, hj, rfl, hr, hb3, HLE⟩ := hrel
            by_cases hjl : j < v2.size
            · have hjI : (j : Int) < (v2.size : Int) := by omega
              have q1 := hr.out.cell j hjl
              have q2 := hr.out.frozen j hjl
              go_wp2
              all_goals
                go_roundw
                case rel =>
                  first
                    | exact ⟨j + 1, f, by omega, by go_num, hr, hb3, HLE⟩
                    | exact ⟨j + 1, _, by omega, by go_num, hr.out.set j 120, hb3.out.setCell (by simp) _, le_set HLE.out⟩
                case measure => simp [intOf]; omega
            · have hcb := fun cap => conv_back v2.size _ cap f _ hr.out
              have hB3 := (hb3.out.block _ hlt).trans hB.out
              have q1 := (box_cells hB3).2.2
              have q2 := box_frozen hB3 2
              have G := gd_str v2 f a2 HLE.out
              have HG : Hid _ := G
              have HB3 : Hid _ := hB3
              clear G hB3
              go_wp2
              go_roundw
              case rel =>
                have G := HG.out
                exact ⟨3, u0, u1, (S (tab v2.size f)), by omega, rfl, box_set2 HB3.out _, (hb.out.trans (hb3.out.mono (by omega))).setCell (by simp) _, fun _ => HG0.out (by decide), fun _ => HG1.out (by decide), fun _ => G⟩
              case measure => simp [intOf]
        · have G0 := HG0.out (by decide)
          have G1 := HG1.out (by decide)
          have G2 := HG2.out (by decide)
          have e0 : Hid _ := gd_vec G0 a0
          have e1 : Hid _ := gd_vec G1 a1
          have e2 : Hid _ := gd_vec G2 a2
          have VV : Hid ((vec (L v2) && (vec (L v0) && vec (L v1))) = true) := show _ = _ from by rw [a0, a1, a2]; rfl
          have VU : Hid ((vec (L u2) && (vec (L u0) && vec (L u1))) = true) := show _ = _ from by rw [e0.out, e1.out, e2.out]; rfl
          have CV : Hid _ := conA_ok VV.out (by rw [len_L, len_L]; exact HL.out)
          have CU : Hid _ := conA_ok VU.out (by rw [G0.1.1, G1.1.1, len_L, len_L]; exact HL.out)
          have TV : Hid (btA (L v0) (L v1) = btL (L v0) (L v1) ∧ btE (L v0) (L v1) = 0) := by unfold btA btE; rw [a0, a1]; exact ⟨rfl, rfl⟩
          have TU : Hid (btA (L u0) (L u1) = btL (L u0) (L u1) ∧ btE (L u0) (L u1) = 0) := by unfold btA btE; rw [e0.out, e1.out]; exact ⟨rfl, rfl⟩
          have K0 : Hid _ := kn_bin op G0.1 G1.1 b0 b1
          have K1 : Hid _ := kn_una op G0.1 b0
          have K3 : Hid _ := kn_bt G0.1 G1.1
          have n0 : Hid ((binL op (L u0) (L u1)).length ≤ 1000) := by have h0 := vec_len e0.out; have h1 := vec_len e1.out; exact Nat.le_trans (len_bin op _ _ h0.1 h0.2 h1.1 h1.2) (by omega)
          have n1 : Hid ((unaL op (L u0)).length ≤ 1000) := by have h0 := vec_len e0.out; exact Nat.le_trans (len_una op _ h0.1 h0.2) (by omega)
          have n2 : Hid ((condL (L u2) (L u0) (L u1)).length ≤ 1000) := by have h0 := vec_len e0.out; have h1 := vec_len e1.out; exact Nat.le_trans (len_cond _ _ _ h0.2 h1.2) (by omega)
          have K2 : Hid _ := kn_cond G2.1 G0.1 G1.1 (by rw [len_L, len_L]; exact HL.out) b2 b0 b1
          have hlv : w.heap.size < wr.heap.size := by omega
          have run := Below.refl wr.heap.size wr
          obtain ⟨cu0, cu1, cu2⟩ := box_cells hB.out
          clear G0 G1 G2
          go_wp2_with (first | (go_at_call_of 16 (Value.string v0); refine (Binary_c op v0 v1 _ z0 z1).mono ?_; rintro e w5 ⟨rfl, hbb⟩; rw [(binA_arg H2.out).1, (binA_arg H2.out).2]; replace run := bel run hbb; obtain ⟨cu0, cu1, cu2⟩ := box_cells ((run.block _ hlt).trans hB.out); obtain ⟨cv0, cv1, cv2⟩ := box_cells ((run.block _ hlv).trans HBV.out)) | (go_at_call 16; refine (Binary_c op u0 u1 _ (vec_max e0.out) (vec_max e1.out)).mono ?_; rintro e w5 ⟨rfl, hbb⟩; rw [(binA_arg H2.out).1, (binA_arg H2.out).2]; replace run := bel run hbb; obtain ⟨cu0, cu1, cu2⟩ := box_cells ((run.block _ hlt).trans hB.out); obtain ⟨cv0, cv1, cv2⟩ := box_cells ((run.block _ hlv).trans HBV.out)) | (go_at_call_of 20 (Value.string v0); refine (Unary_c op v0 _ z0).mono ?_; rintro e w5 ⟨rfl, hbb⟩; rw [(unaA_arg H1.out).1, (unaA_arg H1.out).2]; replace run := bel run hbb; obtain ⟨cu0, cu1, cu2⟩ := box_cells ((run.block _ hlt).trans hB.out); obtain ⟨cv0, cv1, cv2⟩ := box_cells ((run.block _ hlv).trans HBV.out)) | (go_at_call 20; refine (Unary_c op u0 _ (vec_max e0.out)).mono ?_; rintro e w5 ⟨rfl, hbb⟩; rw [(unaA_arg H1.out).1, (unaA_arg H1.out).2]; replace run := bel run hbb; obtain ⟨cu0, cu1, cu2⟩ := box_cells ((run.block _ hlt).trans hB.out); obtain ⟨cv0, cv1, cv2⟩ := box_cells ((run.block _ hlv).trans HBV.out)) | (go_at_call_of 22 (Value.string v0); refine (Cond_c v2 v0 v1 _ z2 z0 z1).mono ?_; rintro e w5 ⟨rfl, hbb⟩; rw [CV.out.1, CV.out.2]; replace run := bel run hbb; obtain ⟨cu0, cu1, cu2⟩ := box_cells ((run.block _ hlt).trans hB.out); obtain ⟨cv0, cv1, cv2⟩ := box_cells ((run.block _ hlv).trans HBV.out)) | (go_at_call 22; refine (Cond_c u2 u0 u1 _ (vec_max e2.out) (vec_max e0.out) (vec_max e1.out)).mono ?_; rintro e w5 ⟨rfl, hbb⟩; rw [CU.out.1, CU.out.2]; replace run := bel run hbb; obtain ⟨cu0, cu1, cu2⟩ := box_cells ((run.block _ hlt).trans hB.out); obtain ⟨cv0, cv1, cv2⟩ := box_cells ((run.block _ hlv).trans HBV.out)) | (go_at_call_of 37 (Value.string (S (condL (L v2) (L v0) (L v1)))); refine (knows_c (S (condL (L u2) (L u0) (L u1))) (S (condL (L v2) (L v0) (L v1))) _ (by rw [size_S]; exact n2.out) (by rw [L_S, L_S]; exact K2.out)).mono ?_; rintro e w5 ⟨rfl, hbb⟩; replace run := bel run hbb; obtain ⟨cu0, cu1, cu2⟩ := box_cells ((run.block _ hlt).trans hB.out); obtain ⟨cv0, cv1, cv2⟩ := box_cells ((run.block _ hlv).trans HBV.out)) | (go_at_call_of 26 (Value.string v0); refine (Bit_c v0 v1 _ z0 z1).mono ?_; rintro e w5 ⟨rfl, hbb⟩; rw [TV.out.1, TV.out.2]; replace run := bel run hbb; obtain ⟨cu0, cu1, cu2⟩ := box_cells ((run.block _ hlt).trans hB.out); obtain ⟨cv0, cv1, cv2⟩ := box_cells ((run.block _ hlv).trans HBV.out)) | (go_at_call 26; refine (Bit_c u0 u1 _ (vec_max e0.out) (vec_max e1.out)).mono ?_; rintro e w5 ⟨rfl, hbb⟩; rw [TU.out.1, TU.out.2]; replace run := bel run hbb; obtain ⟨cu0, cu1, cu2⟩ := box_cells ((run.block _ hlt).trans hB.out); obtain ⟨cv0, cv1, cv2⟩ := box_cells ((run.block _ hlv).trans HBV.out)) | (go_at_call_of 37 (Value.string (S (btL (L v0) (L v1)))); refine (knows_c (S (btL (L u0) (L u1))) (S (btL (L v0) (L v1))) _ (by rw [size_S, len_bt]; omega) (by rw [L_S, L_S]; exact K3.out)).mono ?_; rintro e w5 ⟨rfl, hbb⟩; replace run := bel run hbb; obtain ⟨cu0, cu1, cu2⟩ := box_cells ((run.block _ hlt).trans hB.out); obtain ⟨cv0, cv1, cv2⟩ := box_cells ((run.block _ hlv).trans HBV.out)) | (go_at_call 19; refine (awake_c _).mono ?_; rintro e w5 ⟨rfl, hbb⟩; replace run := bel run hbb; obtain ⟨cu0, cu1, cu2⟩ := box_cells ((run.block _ hlt).trans hB.out); obtain ⟨cv0, cv1, cv2⟩ := box_cells ((run.block _ hlv).trans HBV.out)))
          go_ret
          exact ⟨rfl, bel (bel (belA (Below.refl w.heap.size w) _) (hb.out.mono (by simp))) run⟩
set_option maxHeartbeats 8000000 in
set_option maxRecDepth 100000 in
theorem lessND (op hide : Int) (v0 v1 v2 : ByteArray) (w : World) (z0 : v0.size ≤ maxLen) (z1 : v1.size ≤ maxLen) (z2 : v2.size ≤ maxLen) (a0 : vec (L v0) = true) (a1 : vec (L v1) = true) (a2 : vec (L v2) = true) (b0 : kno (L v0) = true) (b1 : kno (L v1) = true) (b2 : kno (L v2) = true) (h1 : op < 7 ∨ 12 < op) (h2 : op < 13 ∨ 27 < op) (hl : ¬ v0.size = v1.size) :
    Calls Try.prog 9 #[.int .i64 op, .agg #[.string v0, .string v1, .string v2], .int .i64 hide] w fun e w' => e = .returned (.bool true) ∧ Below w.heap.size w w' := by
  have l0 := vec_len a0
  rw [len_L] at l0
  obtain ⟨l0a, l0b⟩ := l0
  have l1 := vec_len a1
  rw [len_L] at l1
  obtain ⟨l1a, l1b⟩ := l1
  have l2 := vec_len a2
  rw [len_L] at l2
  obtain ⟨l2a, l2b⟩ := l2
  obtain ⟨c0, c1, c2⟩ := box_cells (box_alloc w v0 v1 v2)
  unfold boxS at c0 c1 c2
  have HL : Hid _ := hl
  clear hl
  have H1 : Hid _ := h1
  have H2 : Hid _ := h2
  clear h1 h2
  go_enter Try.func9, Try.ntmps9
  go_wp2
  go_loop [7] (fun i => ∃ k : Int, (k = 0 ∨ k = 1 ∨ k = 2 ∨ k = 3) ∧ i = .int .i64 k) (fun i => (3 - intOf i).toNat)
  case atStart => exact ⟨0, by omega, rfl⟩
  case round =>
    obtain ⟨k, hk, rfl⟩ := hrel
    rcases hk with rfl | rfl | rfl | rfl
    · go_wp2_with (first | (go_at_call 17; refine (may_c v0 _ z0).mono ?_; rintro e w9 ⟨rfl, hw1⟩; have hw2 := hw1.symm; subst hw2) | (go_at_call 32; refine (rknown_c v0 _ z0).mono ?_; rintro e w9 ⟨rfl, hw1⟩; have hw2 := hw1.symm; subst hw2))
      go_round
      case rel => exact ⟨1, by omega, rfl⟩
      case measure => simp [intOf]
    · go_wp2_with (first | (go_at_call 17; refine (may_c v1 _ z1).mono ?_; rintro e w9 ⟨rfl, hw1⟩; have hw2 := hw1.symm; subst hw2) | (go_at_call 32; refine (rknown_c v1 _ z1).mono ?_; rintro e w9 ⟨rfl, hw1⟩; have hw2 := hw1.symm; subst hw2))
      go_round
      case rel => exact ⟨2, by omega, rfl⟩
      case measure => simp [intOf]
    · go_wp2_with (first | (go_at_call 17; refine (may_c v2 _ z2).mono ?_; rintro e w9 ⟨rfl, hw1⟩; have hw2 := hw1.symm; subst hw2) | (go_at_call 32; refine (rknown_c v2 _ z2).mono ?_; rintro e w9 ⟨rfl, hw1⟩; have hw2 := hw1.symm; subst hw2))
      go_round
      case rel => exact ⟨3, by omega, rfl⟩
      case measure => simp [intOf]
    · clear c0 c1 c2
      have hcs := conv_str
      have h31 := i64_and31
      go_wp2
      go_loopw [9] (fun i wr => ∃ (k : Int) (u0 u1 u2 : ByteArray), (k = 0 ∨ k = 1 ∨ k = 2 ∨ k = 3) ∧ i = .int .i64 k ∧ Hid (wr.heap[w.heap.size + 1]? = some (boxS u0 u1 u2)) ∧ Hid (Below (w.heap.size + 1) (w.alloc (boxS v0 v1 v2)) wr) ∧ Hid (1 ≤ k → Gd (L u0) (L v0)) ∧ Hid (2 ≤ k → Gd (L u1) (L v1)) ∧ Hid (3 ≤ k → Gd (L u2) (L v2))) (fun i _ => (3 - intOf i).toNat)
      case atStart => exact ⟨0, ⟨#[]⟩, ⟨#[]⟩, ⟨#[]⟩, by omega, rfl, box2_start w v0 v1 v2, (Below.refl _ _).alloc (by simp) _, fun h => absurd h (by decide), fun h => absurd h (by decide), fun h => absurd h (by decide)⟩
      case round =>
        obtain ⟨k, u0, u1, u2, hk, rfl, hB, hb, HG0, HG1, HG2⟩ := hrel
        have hlt := box_lt hB.out
        have hbv : wr.heap[w.heap.size]? = some (boxS v0 v1 v2) := by rw [hb.out.block _ (by omega)]; exact box_alloc w v0 v1 v2
        obtain ⟨c0, c1, c2⟩ := box_cells hbv
        have HBV : Hid _ := hbv
        clear hbv
        rcases hk with rfl | rfl | rfl | rfl
        · go_wp2
          go_loopw [11] (fun kv w3 => ∃ (j : Nat) (f : Nat → UInt8), j ≤ v0.size ∧ kv = .int .i64 j ∧ Hid (BR w3 wr.heap.size v0.size f) ∧ Hid (Below wr.heap.size wr w3) ∧ Hid (∀ i, i < v0.size → Le1 (f i) ((L v0).getD i 0))) (fun kv _ => v0.size - (intOf kv).toNat)
          case atStart => exact ⟨0, _, Nat.zero_le _, rfl, BR.born _ _, born_below _ _, fun i _ => .inr rfl⟩
          case round =>
            obtain ⟨j, f, hj, rfl, hr, hb3, HLE⟩ := hrel
            by_cases hjl : j < v0.size
            · have hjI : (j : Int) < (v0.size : Int) := by omega
              have q1 := hr.out.cell j hjl
              have q2 := hr.out.frozen j hjl
              go_wp2
              all_goals
                go_roundw
                case rel =>
                  first
                    | exact ⟨j + 1, f, by omega, by go_num, hr, hb3, HLE⟩
                    | exact ⟨j + 1, _, by omega, by go_num, hr.out.set j 120, hb3.out.setCell (by simp) _, le_set HLE.out⟩
                case measure => simp [intOf]; omega
            · have hcb := fun cap => conv_back v0.size _ cap f _ hr.out
              have hB3 := (hb3.out.block _ hlt).trans hB.out
              have q1 := (box_cells hB3).1
              have q2 := box_frozen hB3 0
              have G := gd_str v0 f a0 HLE.out
              have HG : Hid _ := G
              have HB3 : Hid _ := hB3
              clear G hB3
              go_wp2
              go_roundw
              case rel =>
                have G := HG.out
                exact ⟨1, (S (tab v0.size f)), u1, u2, by omega, rfl, box_set0 HB3.out _, (hb.out.trans (hb3.out.mono (by omega))).setCell (by simp) _, fun _ => G, fun h => absurd h (by decide), fun h => absurd h (by decide)⟩
              case measure => simp [intOf]
        · go_wp2
          go_loopw [11] (fun kv w3 => ∃ (j : Nat) (f : Nat → UInt8), j ≤ v1.size ∧ kv = .int .i64 j ∧ Hid (BR w3 wr.heap.size v1.size f) ∧ Hid (Below wr.heap.size wr w3) ∧ Hid (∀ i, i < v1.size → Le1 (f i) ((L v1).getD i 0))) (fun kv _ => v1.size - (intOf kv).toNat)
          case atStart => exact ⟨0, _, Nat.zero_le _, rfl, BR.born _ _, born_below _ _, fun i _ => .inr rfl⟩
          case round =>
            obtain ⟨j, f, hj, rfl, hr, hb3, HLE⟩ := hrel
            by_cases hjl : j < v1.size
            · have hjI : (j : Int) < (v1.size : Int) := by omega
              have q1 := hr.out.cell j hjl
              have q2 := hr.out.frozen j hjl
              go_wp2
              all_goals
                go_roundw
                case rel =>
                  first
                    | exact ⟨j + 1, f, by omega, by go_num, hr, hb3, HLE⟩
                    | exact ⟨j + 1, _, by omega, by go_num, hr.out.set j 120, hb3.out.setCell (by simp) _, le_set HLE.out⟩
                case measure => simp [intOf]; omega
            · have hcb := fun cap => conv_back v1.size _ cap f _ hr.out
              have hB3 := (hb3.out.block _ hlt).trans hB.out
              have q1 := (box_cells hB3).2.1
              have q2 := box_frozen hB3 1
              have G := gd_str v1 f a1 HLE.out
              have HG : Hid _ := G
              have HB3 : Hid _ := hB3
              clear G hB3
              go_wp2
              go_roundw
              case rel =>
                have G := HG.out
                exact ⟨2, u0, (S (tab v1.size f)), u2, by omega, rfl, box_set1 HB3.out _, (hb.out.trans (hb3.out.mono (by omega))).setCell (by simp) _, fun _ => HG0.out (by decide), fun _ => G, fun h => absurd h (by decide)⟩
              case measure => simp [intOf]
        · go_wp2
          go_loopw [11] (fun kv w3 => ∃ (j : Nat) (f : Nat → UInt8), j ≤ v2.size ∧ kv = .int .i64 j ∧ Hid (BR w3 wr.heap.size v2.size f) ∧ Hid (Below wr.heap.size wr w3) ∧ Hid (∀ i, i < v2.size → Le1 (f i) ((L v2).getD i 0))) (fun kv _ => v2.size - (intOf kv).toNat)
          case atStart => exact ⟨0, _, Nat.zero_le _, rfl, BR.born _ _, born_below _ _, fun i _ => .inr rfl⟩
          case round =>
            obtain ⟨j, f, hj, rfl, hr, hb3, HLE⟩ := hrel
            by_cases hjl : j < v2.size
            · have hjI : (j : Int) < (v2.size : Int) := by omega
              have q1 := hr.out.cell j hjl
              have q2 := hr.out.frozen j hjl
              go_wp2
              all_goals
                go_roundw
                case rel =>
                  first
                    | exact ⟨j + 1, f, by omega, by go_num, hr, hb3, HLE⟩
                    | exact ⟨j + 1, _, by omega, by go_num, hr.out.set j 120, hb3.out.setCell (by simp) _, le_set HLE.out⟩
                case measure => simp [intOf]; omega
            · have hcb := fun cap => conv_back v2.size _ cap f _ hr.out
              have hB3 := (hb3.out.block _ hlt).trans hB.out
              have q1 := (box_cells hB3).2.2
              have q2 := box_frozen hB3 2
              have G := gd_str v2 f a2 HLE.out
              have HG : Hid _ := G
              have HB3 : Hid _ := hB3
              clear G hB3
              go_wp2
              go_roundw
              case rel =>
                have G := HG.out
                exact ⟨3, u0, u1, (S (tab v2.size f)), by omega, rfl, box_set2 HB3.out _, (hb.out.trans (hb3.out.mono (by omega))).setCell (by simp) _, fun _ => HG0.out (by decide), fun _ => HG1.out (by decide), fun _ => G⟩
              case measure => simp [intOf]
        · have G0 := HG0.out (by decide)
          have G1 := HG1.out (by decide)
          have G2 := HG2.out (by decide)
          have e0 : Hid _ := gd_vec G0 a0
          have e1 : Hid _ := gd_vec G1 a1
          have e2 : Hid _ := gd_vec G2 a2
          have VV : Hid ((vec (L v2) && (vec (L v0) && vec (L v1))) = true) := show _ = _ from by rw [a0, a1, a2]; rfl
          have VU : Hid ((vec (L u2) && (vec (L u0) && vec (L u1))) = true) := show _ = _ from by rw [e0.out, e1.out, e2.out]; rfl
          have CV : Hid _ := conA_arg VV.out (by rw [len_L, len_L]; exact HL.out)
          have CU : Hid _ := conA_arg VU.out (by rw [G0.1.1, G1.1.1, len_L, len_L]; exact HL.out)
          have TV : Hid (btA (L v0) (L v1) = btL (L v0) (L v1) ∧ btE (L v0) (L v1) = 0) := by unfold btA btE; rw [a0, a1]; exact ⟨rfl, rfl⟩
          have TU : Hid (btA (L u0) (L u1) = btL (L u0) (L u1) ∧ btE (L u0) (L u1) = 0) := by unfold btA btE; rw [e0.out, e1.out]; exact ⟨rfl, rfl⟩
          have K0 : Hid _ := kn_bin op G0.1 G1.1 b0 b1
          have K1 : Hid _ := kn_una op G0.1 b0
          have K3 : Hid _ := kn_bt G0.1 G1.1
          have n0 : Hid ((binL op (L u0) (L u1)).length ≤ 1000) := by have h0 := vec_len e0.out; have h1 := vec_len e1.out; exact Nat.le_trans (len_bin op _ _ h0.1 h0.2 h1.1 h1.2) (by omega)
          have n1 : Hid ((unaL op (L u0)).length ≤ 1000) := by have h0 := vec_len e0.out; exact Nat.le_trans (len_una op _ h0.1 h0.2) (by omega)
          have n2 : Hid ((condL (L u2) (L u0) (L u1)).length ≤ 1000) := by have h0 := vec_len e0.out; have h1 := vec_len e1.out; exact Nat.le_trans (len_cond _ _ _ h0.2 h1.2) (by omega)
          skip
          have hlv : w.heap.size < wr.heap.size := by omega
          have run := Below.refl wr.heap.size wr
          obtain ⟨cu0, cu1, cu2⟩ := box_cells hB.out
          clear G0 G1 G2
          go_wp2_with (first | (go_at_call_of 16 (Value.string v0); refine (Binary_c op v0 v1 _ z0 z1).mono ?_; rintro e w5 ⟨rfl, hbb⟩; rw [(binA_arg H2.out).1, (binA_arg H2.out).2]; replace run := bel run hbb; obtain ⟨cu0, cu1, cu2⟩ := box_cells ((run.block _ hlt).trans hB.out); obtain ⟨cv0, cv1, cv2⟩ := box_cells ((run.block _ hlv).trans HBV.out)) | (go_at_call 16; refine (Binary_c op u0 u1 _ (vec_max e0.out) (vec_max e1.out)).mono ?_; rintro e w5 ⟨rfl, hbb⟩; rw [(binA_arg H2.out).1, (binA_arg H2.out).2]; replace run := bel run hbb; obtain ⟨cu0, cu1, cu2⟩ := box_cells ((run.block _ hlt).trans hB.out); obtain ⟨cv0, cv1, cv2⟩ := box_cells ((run.block _ hlv).trans HBV.out)) | (go_at_call_of 20 (Value.string v0); refine (Unary_c op v0 _ z0).mono ?_; rintro e w5 ⟨rfl, hbb⟩; rw [(unaA_arg H1.out).1, (unaA_arg H1.out).2]; replace run := bel run hbb; obtain ⟨cu0, cu1, cu2⟩ := box_cells ((run.block _ hlt).trans hB.out); obtain ⟨cv0, cv1, cv2⟩ := box_cells ((run.block _ hlv).trans HBV.out)) | (go_at_call 20; refine (Unary_c op u0 _ (vec_max e0.out)).mono ?_; rintro e w5 ⟨rfl, hbb⟩; rw [(unaA_arg H1.out).1, (unaA_arg H1.out).2]; replace run := bel run hbb; obtain ⟨cu0, cu1, cu2⟩ := box_cells ((run.block _ hlt).trans hB.out); obtain ⟨cv0, cv1, cv2⟩ := box_cells ((run.block _ hlv).trans HBV.out)) | (go_at_call_of 22 (Value.string v0); refine (Cond_c v2 v0 v1 _ z2 z0 z1).mono ?_; rintro e w5 ⟨rfl, hbb⟩; rw [CV.out.1, CV.out.2]; replace run := bel run hbb; obtain ⟨cu0, cu1, cu2⟩ := box_cells ((run.block _ hlt).trans hB.out); obtain ⟨cv0, cv1, cv2⟩ := box_cells ((run.block _ hlv).trans HBV.out)) | (go_at_call 22; refine (Cond_c u2 u0 u1 _ (vec_max e2.out) (vec_max e0.out) (vec_max e1.out)).mono ?_; rintro e w5 ⟨rfl, hbb⟩; rw [CU.out.1, CU.out.2]; replace run := bel run hbb; obtain ⟨cu0, cu1, cu2⟩ := box_cells ((run.block _ hlt).trans hB.out); obtain ⟨cv0, cv1, cv2⟩ := box_cells ((run.block _ hlv).trans HBV.out)) | (go_at_call_of 26 (Value.string v0); refine (Bit_c v0 v1 _ z0 z1).mono ?_; rintro e w5 ⟨rfl, hbb⟩; rw [TV.out.1, TV.out.2]; replace run := bel run hbb; obtain ⟨cu0, cu1, cu2⟩ := box_cells ((run.block _ hlt).trans hB.out); obtain ⟨cv0, cv1, cv2⟩ := box_cells ((run.block _ hlv).trans HBV.out)) | (go_at_call 26; refine (Bit_c u0 u1 _ (vec_max e0.out) (vec_max e1.out)).mono ?_; rintro e w5 ⟨rfl, hbb⟩; rw [TU.out.1, TU.out.2]; replace run := bel run hbb; obtain ⟨cu0, cu1, cu2⟩ := box_cells ((run.block _ hlt).trans hB.out); obtain ⟨cv0, cv1, cv2⟩ := box_cells ((run.block _ hlv).trans HBV.out)) | (go_at_call_of 37 (Value.string (S (btL (L v0) (L v1)))); refine (knows_c (S (btL (L u0) (L u1))) (S (btL (L v0) (L v1))) _ (by rw [size_S, len_bt]; omega) (by rw [L_S, L_S]; exact K3.out)).mono ?_; rintro e w5 ⟨rfl, hbb⟩; replace run := bel run hbb; obtain ⟨cu0, cu1, cu2⟩ := box_cells ((run.block _ hlt).trans hB.out); obtain ⟨cv0, cv1, cv2⟩ := box_cells ((run.block _ hlv).trans HBV.out)) | (go_at_call 19; refine (awake_c _).mono ?_; rintro e w5 ⟨rfl, hbb⟩; replace run := bel run hbb; obtain ⟨cu0, cu1, cu2⟩ := box_cells ((run.block _ hlt).trans hB.out); obtain ⟨cv0, cv1, cv2⟩ := box_cells ((run.block _ hlv).trans HBV.out)))
          go_ret
          exact ⟨rfl, bel (bel (belA (Below.refl w.heap.size w) _) (hb.out.mono (by simp))) run⟩
set_option maxHeartbeats 2000000 in
set_option maxRecDepth 100000 in
theorem lessBad0V (op hide : Int) (v0 v1 v2 : ByteArray) (w : World) (z0 : v0.size ≤ maxLen) (z1 : v1.size ≤ maxLen) (z2 : v2.size ≤ maxLen)  (a0 : vec (L v0) = false) : Calls Try.prog 9 #[.int .i64 op, .agg #[.string v0, .string v1, .string v2], .int .i64 hide] w fun e w' => e = .returned (.bool true) ∧ Below w.heap.size w w' := by
  obtain ⟨c0, c1, c2⟩ := box_cells (box_alloc w v0 v1 v2)
  unfold boxS at c0 c1 c2
  go_enter Try.func9, Try.ntmps9
  go_wp2
  go_loop [7] (fun i => ∃ k : Int, (k = 0) ∧ i = .int .i64 k) (fun i => (3 - intOf i).toNat)
  case atStart => exact ⟨0, by omega, rfl⟩
  case round =>
    obtain ⟨k, hk, rfl⟩ := hrel
    obtain rfl := hk
    · go_wp2_with (first | (go_at_call 17; refine (may_c v0 _ z0).mono ?_; rintro e w9 ⟨rfl, hw1⟩; have hw2 := hw1.symm; subst hw2) | (go_at_call 32; refine (rknown_c v0 _ z0).mono ?_; rintro e w9 ⟨rfl, hw1⟩; have hw2 := hw1.symm; subst hw2) | (go_at_call 19; refine (awake_c _).mono ?_; rintro e w5 ⟨rfl, hbb⟩))
      go_ret
      exact ⟨rfl, bel (belA (Below.refl w.heap.size w) _) hbb⟩
set_option maxHeartbeats 2000000 in
set_option maxRecDepth 100000 in
theorem lessBad0K (op hide : Int) (v0 v1 v2 : ByteArray) (w : World) (z0 : v0.size ≤ maxLen) (z1 : v1.size ≤ maxLen) (z2 : v2.size ≤ maxLen)  (a0 : vec (L v0) = true) (b0 : kno (L v0) = false) : Calls Try.prog 9 #[.int .i64 op, .agg #[.string v0, .string v1, .string v2], .int .i64 hide] w fun e w' => e = .returned (.bool true) ∧ Below w.heap.size w w' := by
  obtain ⟨c0, c1, c2⟩ := box_cells (box_alloc w v0 v1 v2)
  unfold boxS at c0 c1 c2
  go_enter Try.func9, Try.ntmps9
  go_wp2
  go_loop [7] (fun i => ∃ k : Int, (k = 0) ∧ i = .int .i64 k) (fun i => (3 - intOf i).toNat)
  case atStart => exact ⟨0, by omega, rfl⟩
  case round =>
    obtain ⟨k, hk, rfl⟩ := hrel
    obtain rfl := hk
    · go_wp2_with (first | (go_at_call 17; refine (may_c v0 _ z0).mono ?_; rintro e w9 ⟨rfl, hw1⟩; have hw2 := hw1.symm; subst hw2) | (go_at_call 32; refine (rknown_c v0 _ z0).mono ?_; rintro e w9 ⟨rfl, hw1⟩; have hw2 := hw1.symm; subst hw2) | (go_at_call 19; refine (awake_c _).mono ?_; rintro e w5 ⟨rfl, hbb⟩))
      go_ret
      exact ⟨rfl, bel (belA (Below.refl w.heap.size w) _) hbb⟩
set_option maxHeartbeats 2000000 in
set_option maxRecDepth 100000 in
theorem lessBad1V (op hide : Int) (v0 v1 v2 : ByteArray) (w : World) (z0 : v0.size ≤ maxLen) (z1 : v1.size ≤ maxLen) (z2 : v2.size ≤ maxLen) (a0 : vec (L v0) = true) (b0 : kno (L v0) = true) (a1 : vec (L v1) = false) : Calls Try.prog 9 #[.int .i64 op, .agg #[.string v0, .string v1, .string v2], .int .i64 hide] w fun e w' => e = .returned (.bool true) ∧ Below w.heap.size w w' := by
  obtain ⟨c0, c1, c2⟩ := box_cells (box_alloc w v0 v1 v2)
  unfold boxS at c0 c1 c2
  go_enter Try.func9, Try.ntmps9
  go_wp2
  go_loop [7] (fun i => ∃ k : Int, (k = 0 ∨ k = 1) ∧ i = .int .i64 k) (fun i => (3 - intOf i).toNat)
  case atStart => exact ⟨0, by omega, rfl⟩
  case round =>
    obtain ⟨k, hk, rfl⟩ := hrel
    rcases hk with rfl | rfl
    · go_wp2_with (first | (go_at_call 17; refine (may_c v0 _ z0).mono ?_; rintro e w9 ⟨rfl, hw1⟩; have hw2 := hw1.symm; subst hw2) | (go_at_call 32; refine (rknown_c v0 _ z0).mono ?_; rintro e w9 ⟨rfl, hw1⟩; have hw2 := hw1.symm; subst hw2))
      go_round
      case rel => exact ⟨1, by omega, rfl⟩
      case measure => simp [intOf]
    · go_wp2_with (first | (go_at_call 17; refine (may_c v1 _ z1).mono ?_; rintro e w9 ⟨rfl, hw1⟩; have hw2 := hw1.symm; subst hw2) | (go_at_call 32; refine (rknown_c v1 _ z1).mono ?_; rintro e w9 ⟨rfl, hw1⟩; have hw2 := hw1.symm; subst hw2) | (go_at_call 19; refine (awake_c _).mono ?_; rintro e w5 ⟨rfl, hbb⟩))
      go_ret
      exact ⟨rfl, bel (belA (Below.refl w.heap.size w) _) hbb⟩
set_option maxHeartbeats 2000000 in
set_option maxRecDepth 100000 in
theorem lessBad1K (op hide : Int) (v0 v1 v2 : ByteArray) (w : World) (z0 : v0.size ≤ maxLen) (z1 : v1.size ≤ maxLen) (z2 : v2.size ≤ maxLen) (a0 : vec (L v0) = true) (b0 : kno (L v0) = true) (a1 : vec (L v1) = true) (b1 : kno (L v1) = false) : Calls Try.prog 9 #[.int .i64 op, .agg #[.string v0, .string v1, .string v2], .int .i64 hide] w fun e w' => e = .returned (.bool true) ∧ Below w.heap.size w w' := by
  obtain ⟨c0, c1, c2⟩ := box_cells (box_alloc w v0 v1 v2)
  unfold boxS at c0 c1 c2
  go_enter Try.func9, Try.ntmps9
  go_wp2
  go_loop [7] (fun i => ∃ k : Int, (k = 0 ∨ k = 1) ∧ i = .int .i64 k) (fun i => (3 - intOf i).toNat)
  case atStart => exact ⟨0, by omega, rfl⟩
  case round =>
    obtain ⟨k, hk, rfl⟩ := hrel
    rcases hk with rfl | rfl
    · go_wp2_with (first | (go_at_call 17; refine (may_c v0 _ z0).mono ?_; rintro e w9 ⟨rfl, hw1⟩; have hw2 := hw1.symm; subst hw2) | (go_at_call 32; refine (rknown_c v0 _ z0).mono ?_; rintro e w9 ⟨rfl, hw1⟩; have hw2 := hw1.symm; subst hw2))
      go_round
      case rel => exact ⟨1, by omega, rfl⟩
      case measure => simp [intOf]
    · go_wp2_with (first | (go_at_call 17; refine (may_c v1 _ z1).mono ?_; rintro e w9 ⟨rfl, hw1⟩; have hw2 := hw1.symm; subst hw2) | (go_at_call 32; refine (rknown_c v1 _ z1).mono ?_; rintro e w9 ⟨rfl, hw1⟩; have hw2 := hw1.symm; subst hw2) | (go_at_call 19; refine (awake_c _).mono ?_; rintro e w5 ⟨rfl, hbb⟩))
      go_ret
      exact ⟨rfl, bel (belA (Below.refl w.heap.size w) _) hbb⟩
set_option maxHeartbeats 2000000 in
set_option maxRecDepth 100000 in
theorem lessBad2V (op hide : Int) (v0 v1 v2 : ByteArray) (w : World) (z0 : v0.size ≤ maxLen) (z1 : v1.size ≤ maxLen) (z2 : v2.size ≤ maxLen) (a0 : vec (L v0) = true) (b0 : kno (L v0) = true) (a1 : vec (L v1) = true) (b1 : kno (L v1) = true) (a2 : vec (L v2) = false) : Calls Try.prog 9 #[.int .i64 op, .agg #[.string v0, .string v1, .string v2], .int .i64 hide] w fun e w' => e = .returned (.bool true) ∧ Below w.heap.size w w' := by
  obtain ⟨c0, c1, c2⟩ := box_cells (box_alloc w v0 v1 v2)
  unfold boxS at c0 c1 c2
  go_enter Try.func9, Try.ntmps9
  go_wp2
  go_loop [7] (fun i => ∃ k : Int, (k = 0 ∨ k = 1 ∨ k = 2) ∧ i = .int .i64 k) (fun i => (3 - intOf i).toNat)
  case atStart => exact ⟨0, by omega, rfl⟩
  case round =>
    obtain ⟨k, hk, rfl⟩ := hrel
    rcases hk with rfl | rfl | rfl
    · go_wp2_with (first | (go_at_call 17; refine (may_c v0 _ z0).mono ?_; rintro e w9 ⟨rfl, hw1⟩; have hw2 := hw1.symm; subst hw2) | (go_at_call 32; refine (rknown_c v0 _ z0).mono ?_; rintro e w9 ⟨rfl, hw1⟩; have hw2 := hw1.symm; subst hw2))
      go_round
      case rel => exact ⟨1, by omega, rfl⟩
      case measure => simp [intOf]
    · go_wp2_with (first | (go_at_call 17; refine (may_c v1 _ z1).mono ?_; rintro e w9 ⟨rfl, hw1⟩; have hw2 := hw1.symm; subst hw2) | (go_at_call 32; refine (rknown_c v1 _ z1).mono ?_; rintro e w9 ⟨rfl, hw1⟩; have hw2 := hw1.symm; subst hw2))
      go_round
      case rel => exact ⟨2, by omega, rfl⟩
      case measure => simp [intOf]
    · go_wp2_with (first | (go_at_call 17; refine (may_c v2 _ z2).mono ?_; rintro e w9 ⟨rfl, hw1⟩; have hw2 := hw1.symm; subst hw2) | (go_at_call 32; refine (rknown_c v2 _ z2).mono ?_; rintro e w9 ⟨rfl, hw1⟩; have hw2 := hw1.symm; subst hw2) | (go_at_call 19; refine (awake_c _).mono ?_; rintro e w5 ⟨rfl, hbb⟩))
      go_ret
      exact ⟨rfl, bel (belA (Below.refl w.heap.size w) _) hbb⟩
set_option maxHeartbeats 2000000 in
set_option maxRecDepth 100000 in
theorem lessBad2K (op hide : Int) (v0 v1 v2 : ByteArray) (w : World) (z0 : v0.size ≤ maxLen) (z1 : v1.size ≤ maxLen) (z2 : v2.size ≤ maxLen) (a0 : vec (L v0) = true) (b0 : kno (L v0) = true) (a1 : vec (L v1) = true) (b1 : kno (L v1) = true) (a2 : vec (L v2) = true) (b2 : kno (L v2) = false) : Calls Try.prog 9 #[.int .i64 op, .agg #[.string v0, .string v1, .string v2], .int .i64 hide] w fun e w' => e = .returned (.bool true) ∧ Below w.heap.size w w' := by
  obtain ⟨c0, c1, c2⟩ := box_cells (box_alloc w v0 v1 v2)
  unfold boxS at c0 c1 c2
  go_enter Try.func9, Try.ntmps9
  go_wp2
  go_loop [7] (fun i => ∃ k : Int, (k = 0 ∨ k = 1 ∨ k = 2) ∧ i = .int .i64 k) (fun i => (3 - intOf i).toNat)
  case atStart => exact ⟨0, by omega, rfl⟩
  case round =>
    obtain ⟨k, hk, rfl⟩ := hrel
    rcases hk with rfl | rfl | rfl
    · go_wp2_with (first | (go_at_call 17; refine (may_c v0 _ z0).mono ?_; rintro e w9 ⟨rfl, hw1⟩; have hw2 := hw1.symm; subst hw2) | (go_at_call 32; refine (rknown_c v0 _ z0).mono ?_; rintro e w9 ⟨rfl, hw1⟩; have hw2 := hw1.symm; subst hw2))
      go_round
      case rel => exact ⟨1, by omega, rfl⟩
      case measure => simp [intOf]
    · go_wp2_with (first | (go_at_call 17; refine (may_c v1 _ z1).mono ?_; rintro e w9 ⟨rfl, hw1⟩; have hw2 := hw1.symm; subst hw2) | (go_at_call 32; refine (rknown_c v1 _ z1).mono ?_; rintro e w9 ⟨rfl, hw1⟩; have hw2 := hw1.symm; subst hw2))
      go_round
      case rel => exact ⟨2, by omega, rfl⟩
      case measure => simp [intOf]
    · go_wp2_with (first | (go_at_call 17; refine (may_c v2 _ z2).mono ?_; rintro e w9 ⟨rfl, hw1⟩; have hw2 := hw1.symm; subst hw2) | (go_at_call 32; refine (rknown_c v2 _ z2).mono ?_; rintro e w9 ⟨rfl, hw1⟩; have hw2 := hw1.symm; subst hw2) | (go_at_call 19; refine (awake_c _).mono ?_; rintro e w5 ⟨rfl, hbb⟩))
      go_ret
      exact ⟨rfl, bel (belA (Below.refl w.heap.size w) _) hbb⟩
end Go.Proofs.Ytdacoincdkighaa
