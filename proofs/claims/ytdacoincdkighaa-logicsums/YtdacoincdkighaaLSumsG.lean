/- The law LogicSums: its walk. -/
import Derived.Test.YtdacoincdkighaaLSums
namespace Go.Proofs.Ytdacoincdkighaa
open Go.RowKit Lg
set_option linter.unusedVariables false

set_option maxHeartbeats 8000000 in
set_option maxRecDepth 100000 in
theorem sumsGt (a b wd : Int) (w : World) (c d W M x y : Nat) (h1 : bits .and .i64 wd 255 = (c : Int)) (h2 : (c : Int) % 30 = (d : Int)) (h3 : 1 + (d : Int) = (W : Int)) (hW : 1 ≤ W) (hW2 : W ≤ 30) (h4 : wrap64 (wrap64 (2 ^ W) - 1) = (M : Int)) (h5 : bits .and .i64 a (M : Int) = (x : Int)) (h6 : bits .and .i64 b (M : Int) = (y : Int)) (hx : x < 1073741824) (hy : y < 1073741824) (hM : M < 1073741824) (hc : c < 256) (hd : d < 30) (r0 r1 r2 r3 r4 r5 n0 n1 n2 n3 n4 n5 : Nat) (q0 : bits .and .i64 ((x : Int) + (y : Int)) (M : Int) = (r0 : Int)) (q1 : bits .and .i64 ((x : Int) - (y : Int)) (M : Int) = (r1 : Int)) (q2 : bits .and .i64 (x : Int) (y : Int) = (r2 : Int)) (q3 : bits .or .i64 (x : Int) (y : Int) = (r3 : Int)) (q4 : bits .xor .i64 (x : Int) (y : Int) = (r4 : Int)) (q5 : bits .and .i64 (-(x : Int)) (M : Int) = (r5 : Int)) (m0 : n0 % 2 ^ W = r0) (k0 : r0 ≤ 2147483647) (m1 : n1 % 2 ^ W = r1) (k1 : r1 ≤ 2147483647) (m2 : n2 % 2 ^ W = r2) (k2 : r2 ≤ 2147483647) (m3 : n3 % 2 ^ W = r3) (k3 : r3 ≤ 2147483647) (m4 : n4 % 2 ^ W = r4) (k4 : r4 ≤ 2147483647) (m5 : n5 % 2 ^ W = r5) (k5 : r5 ≤ 2147483647) (B13 : binL 13 (ofL x W) (ofL y W) = ofL n0 W) (B14 : binL 14 (ofL x W) (ofL y W) = ofL n1 W) (B23 : binL 23 (ofL x W) (ofL y W) = ofL n2 W) (B25 : binL 25 (ofL x W) (ofL y W) = ofL n3 W) (B24 : binL 24 (ofL x W) (ofL y W) = ofL n4 W) (U9 : unaL 9 (ofL x W) = ofL n5 W) (hxy : y < x) (hpx : x < 2 ^ W) (hpy : y < 2 ^ W) :
    Calls Try.prog 8 #[.int .i64 a, .int .i64 b, .int .i64 wd] w fun e w' => e = .returned (.bool true) ∧ Below w.heap.size w w' := by
  obtain ⟨z0, Z0⟩ : ∃ z, Hid (z = S (ofL n0 W)) := ⟨_, rfl⟩
  have s0 : z0.size = W := by rw [Z0.out, size_S, len_ofL]
  have E13 : Hid (S (binL 13 (ofL x W) (ofL y W)) = z0) := show _ = _ from by rw [B13, Z0.out]
  have HM0 : Hid _ := m0
  obtain ⟨z1, Z1⟩ : ∃ z, Hid (z = S (ofL n1 W)) := ⟨_, rfl⟩
  have s1 : z1.size = W := by rw [Z1.out, size_S, len_ofL]
  have E14 : Hid (S (binL 14 (ofL x W) (ofL y W)) = z1) := show _ = _ from by rw [B14, Z1.out]
  have HM1 : Hid _ := m1
  obtain ⟨z2, Z2⟩ : ∃ z, Hid (z = S (ofL n2 W)) := ⟨_, rfl⟩
  have s2 : z2.size = W := by rw [Z2.out, size_S, len_ofL]
  have E23 : Hid (S (binL 23 (ofL x W) (ofL y W)) = z2) := show _ = _ from by rw [B23, Z2.out]
  have HM2 : Hid _ := m2
  obtain ⟨z3, Z3⟩ : ∃ z, Hid (z = S (ofL n3 W)) := ⟨_, rfl⟩
  have s3 : z3.size = W := by rw [Z3.out, size_S, len_ofL]
  have E25 : Hid (S (binL 25 (ofL x W) (ofL y W)) = z3) := show _ = _ from by rw [B25, Z3.out]
  have HM3 : Hid _ := m3
  obtain ⟨z4, Z4⟩ : ∃ z, Hid (z = S (ofL n4 W)) := ⟨_, rfl⟩
  have s4 : z4.size = W := by rw [Z4.out, size_S, len_ofL]
  have E24 : Hid (S (binL 24 (ofL x W) (ofL y W)) = z4) := show _ = _ from by rw [B24, Z4.out]
  have HM4 : Hid _ := m4
  obtain ⟨z5, Z5⟩ : ∃ z, Hid (z = S (ofL n5 W)) := ⟨_, rfl⟩
  have E9 : Hid (S (unaL 9 (ofL x W)) = z5) := show _ = _ from by rw [U9, Z5.out]
  have HM5 : Hid _ := m5
  have dl : decide (x < y) = false := by simp; omega
  have de : decide (x = y) = false := by simp; omega
  have E17 : Hid (S (binL 17 (ofL x W) (ofL y W)) = ⟨#[48]⟩) := show _ = _ from by rw [cmp_known 17 _ _ (by omega) (by omega) (ofL_kno _ _) (ofL_kno _ _), hold17, ltF_of _ _ _ hpx hpy, dl]; rfl
  have E18 : Hid (S (binL 18 (ofL x W) (ofL y W)) = ⟨#[48]⟩) := show _ = _ from by rw [cmp_known 18 _ _ (by omega) (by omega) (ofL_kno _ _) (ofL_kno _ _), hold18, ltF_of _ _ _ hpx hpy, eqF_of _ _ _ hpx hpy, dl, de]; rfl
  have E19 : Hid (S (binL 19 (ofL x W) (ofL y W)) = ⟨#[49]⟩) := show _ = _ from by rw [cmp_known 19 _ _ (by omega) (by omega) (ofL_kno _ _) (ofL_kno _ _), hold19, ltF_of _ _ _ hpx hpy, eqF_of _ _ _ hpx hpy, dl, de]; rfl
  have E20 : Hid (S (binL 20 (ofL x W) (ofL y W)) = ⟨#[49]⟩) := show _ = _ from by rw [cmp_known 20 _ _ (by omega) (by omega) (ofL_kno _ _) (ofL_kno _ _), hold20, ltF_of _ _ _ hpx hpy, dl]; rfl
  have E21 : Hid (S (binL 21 (ofL x W) (ofL y W)) = ⟨#[48]⟩) := show _ = _ from by rw [cmp_known 21 _ _ (by omega) (by omega) (ofL_kno _ _) (ofL_kno _ _), hold21, eqF_of _ _ _ hpx hpy, de]; rfl
  have E22 : Hid (S (binL 22 (ofL x W) (ofL y W)) = ⟨#[49]⟩) := show _ = _ from by rw [cmp_known 22 _ _ (by omega) (by omega) (ofL_kno _ _) (ofL_kno _ _), hold22, eqF_of _ _ _ hpx hpy, de]; rfl
  have VX : Hid (vec (L (S (ofL x W))) = true) := show _ = _ from by rw [L_S]; exact ofL_vec _ _ (by omega) (by omega)
  have VY : Hid (vec (L (S (ofL y W))) = true) := show _ = _ from by rw [L_S]; exact ofL_vec _ _ (by omega) (by omega)
  have HW : Hid (2 ^ W = 2 ^ W) := rfl
  clear m0 m1 m2 m3 m4 m5 B13 B14 B23 B25 B24 U9 dl de hpx hpy
  have bxy : ((x : Int) == (y : Int)) = false := by simp; omega
  have bxn : ((x : Int) != (y : Int)) = true := by simp; omega
  have p0 : ¬ x < y := by omega
  have p1 : ¬ x ≤ y := by omega
  have p3 : y ≤ x := by omega
  go_enter Try.func8, Try.ntmps8
  go_wp2_with fail
  refine (Of_ok3 x W _ (by omega) (by omega) (by omega)).mono ?_
  rintro e w1 ⟨rfl, hb1⟩
  go_wp2_with fail
  refine (Of_ok3 y W _ (by omega) (by omega) (by omega)).mono ?_
  rintro e w2 ⟨rfl, hb2⟩
  go_wp2
  go_loopw [17] (fun i wr => ∃ k : Int, (k = 0 ∨ k = 1 ∨ k = 2 ∨ k = 3 ∨ k = 4 ∨ k = 5) ∧ i = .int .i64 k ∧ Hid (Below (w2.heap.size + 2) ((w2.alloc oO).alloc (wO r0 r1 r2 r3 r4)) wr)) (fun i _ => (5 - intOf i).toNat)
  case atStart => exact ⟨0, by omega, rfl, Below.refl _ _⟩
  case round =>
    obtain ⟨k, hk, rfl, hb⟩ := hrel
    rcases hk with rfl | rfl | rfl | rfl | rfl | rfl
    · have g0 : wr.cell? ⟨w2.heap.size, 0, none⟩ = some (.int .i64 13) := two_first w2 wr _ _ _ _ hb.out 0
      have run := hb.out
      go_wp2_with (first | (go_at_call 16; refine (Binary_ok 13 _ _ _ VX.out VY.out (by omega) (by omega)).mono ?_; rintro e w5 ⟨rfl, hbb⟩; rw [L_S, L_S, E13.out]; replace run := belS run hbb (by simp)) | (go_at_call 27; refine (Number_ok z0 n0 W r0 _ Z0.out (by omega) (by omega) HM0.out k0).mono ?_; rintro e w6 ⟨rfl, hbb⟩; replace run := belS run hbb (by simp); have g1 : w6.cell? ⟨w2.heap.size + 1, 0, none⟩ = some (.int .i64 (r0 : Int)) := two_second w2 w6 _ _ _ _ run 0))
      go_roundw
      case rel => exact ⟨1, by omega, rfl, run⟩
      case measure => simp [intOf]
    · have g0 : wr.cell? ⟨w2.heap.size, 1, none⟩ = some (.int .i64 14) := two_first w2 wr _ _ _ _ hb.out 1
      have run := hb.out
      go_wp2_with (first | (go_at_call 16; refine (Binary_ok 14 _ _ _ VX.out VY.out (by omega) (by omega)).mono ?_; rintro e w5 ⟨rfl, hbb⟩; rw [L_S, L_S, E14.out]; replace run := belS run hbb (by simp)) | (go_at_call 27; refine (Number_ok z1 n1 W r1 _ Z1.out (by omega) (by omega) HM1.out k1).mono ?_; rintro e w6 ⟨rfl, hbb⟩; replace run := belS run hbb (by simp); have g1 : w6.cell? ⟨w2.heap.size + 1, 1, none⟩ = some (.int .i64 (r1 : Int)) := two_second w2 w6 _ _ _ _ run 1))
      go_roundw
      case rel => exact ⟨2, by omega, rfl, run⟩
      case measure => simp [intOf]
    · have g0 : wr.cell? ⟨w2.heap.size, 2, none⟩ = some (.int .i64 23) := two_first w2 wr _ _ _ _ hb.out 2
      have run := hb.out
      go_wp2_with (first | (go_at_call 16; refine (Binary_ok 23 _ _ _ VX.out VY.out (by omega) (by omega)).mono ?_; rintro e w5 ⟨rfl, hbb⟩; rw [L_S, L_S, E23.out]; replace run := belS run hbb (by simp)) | (go_at_call 27; refine (Number_ok z2 n2 W r2 _ Z2.out (by omega) (by omega) HM2.out k2).mono ?_; rintro e w6 ⟨rfl, hbb⟩; replace run := belS run hbb (by simp); have g1 : w6.cell? ⟨w2.heap.size + 1, 2, none⟩ = some (.int .i64 (r2 : Int)) := two_second w2 w6 _ _ _ _ run 2))
      go_roundw
      case rel => exact ⟨3, by omega, rfl, run⟩
      case measure => simp [intOf]
    · have g0 : wr.cell? ⟨w2.heap.size, 3, none⟩ = some (.int .i64 25) := two_first w2 wr _ _ _ _ hb.out 3
      have run := hb.out
      go_wp2_with (first | (go_at_call 16; refine (Binary_ok 25 _ _ _ VX.out VY.out (by omega) (by omega)).mono ?_; rintro e w5 ⟨rfl, hbb⟩; rw [L_S, L_S, E25.out]; replace run := belS run hbb (by simp)) | (go_at_call 27; refine (Number_ok z3 n3 W r3 _ Z3.out (by omega) (by omega) HM3.out k3).mono ?_; rintro e w6 ⟨rfl, hbb⟩; replace run := belS run hbb (by simp); have g1 : w6.cell? ⟨w2.heap.size + 1, 3, none⟩ = some (.int .i64 (r3 : Int)) := two_second w2 w6 _ _ _ _ run 3))
      go_roundw
      case rel => exact ⟨4, by omega, rfl, run⟩
      case measure => simp [intOf]
    · have g0 : wr.cell? ⟨w2.heap.size, 4, none⟩ = some (.int .i64 24) := two_first w2 wr _ _ _ _ hb.out 4
      have run := hb.out
      go_wp2_with (first | (go_at_call 16; refine (Binary_ok 24 _ _ _ VX.out VY.out (by omega) (by omega)).mono ?_; rintro e w5 ⟨rfl, hbb⟩; rw [L_S, L_S, E24.out]; replace run := belS run hbb (by simp)) | (go_at_call 27; refine (Number_ok z4 n4 W r4 _ Z4.out (by omega) (by omega) HM4.out k4).mono ?_; rintro e w6 ⟨rfl, hbb⟩; replace run := belS run hbb (by simp); have g1 : w6.cell? ⟨w2.heap.size + 1, 4, none⟩ = some (.int .i64 (r4 : Int)) := two_second w2 w6 _ _ _ _ run 4))
      go_roundw
      case rel => exact ⟨5, by omega, rfl, run⟩
      case measure => simp [intOf]
    · have run0 : Below w.heap.size w wr := (bel (bel hb1 hb2) ((belA (belA (Below.refl _ _) _) _).trans (hb.out.mono (by omega))))
      go_wp2
      go_loopw [24] (fun i w3 => ∃ k : Int, (k = 0 ∨ k = 1 ∨ k = 2 ∨ k = 3 ∨ k = 4 ∨ k = 5 ∨ k = 6) ∧ i = .int .i64 k ∧ Hid (Below (wr.heap.size + 2) ((wr.alloc tO).alloc (iO false false true true false true)) w3)) (fun i _ => (6 - intOf i).toNat)
      case atStart => exact ⟨0, by omega, rfl, Below.refl _ _⟩
      case round =>
        obtain ⟨k, hk, rfl, hc2⟩ := hrel
        rcases hk with rfl | rfl | rfl | rfl | rfl | rfl | rfl
        · have g0 : wr.cell? ⟨_, 0, none⟩ = some (.int .i64 17) := two_first _ wr _ _ _ _ hc2.out 0
          have run := hc2.out
          go_wp2_with (first | (go_at_call 16; refine (Binary_ok 17 _ _ _ VX.out VY.out (by omega) (by omega)).mono ?_; rintro e w5 ⟨rfl, hbb⟩; rw [L_S, L_S, E17.out]; replace run := belS run hbb (by simp); have g1 : w5.cell? ⟨_, 0, none⟩ = some (.bool false) := two_second _ w5 _ _ _ _ run 0))
          go_roundw
          case rel => exact ⟨1, by omega, rfl, run⟩
          case measure => simp [intOf]
        · have g0 : wr.cell? ⟨_, 1, none⟩ = some (.int .i64 18) := two_first _ wr _ _ _ _ hc2.out 1
          have run := hc2.out
          go_wp2_with (first | (go_at_call 16; refine (Binary_ok 18 _ _ _ VX.out VY.out (by omega) (by omega)).mono ?_; rintro e w5 ⟨rfl, hbb⟩; rw [L_S, L_S, E18.out]; replace run := belS run hbb (by simp); have g1 : w5.cell? ⟨_, 1, none⟩ = some (.bool false) := two_second _ w5 _ _ _ _ run 1))
          go_roundw
          case rel => exact ⟨2, by omega, rfl, run⟩
          case measure => simp [intOf]
        · have g0 : wr.cell? ⟨_, 2, none⟩ = some (.int .i64 19) := two_first _ wr _ _ _ _ hc2.out 2
          have run := hc2.out
          go_wp2_with (first | (go_at_call 16; refine (Binary_ok 19 _ _ _ VX.out VY.out (by omega) (by omega)).mono ?_; rintro e w5 ⟨rfl, hbb⟩; rw [L_S, L_S, E19.out]; replace run := belS run hbb (by simp); have g1 : w5.cell? ⟨_, 2, none⟩ = some (.bool true) := two_second _ w5 _ _ _ _ run 2))
          go_roundw
          case rel => exact ⟨3, by omega, rfl, run⟩
          case measure => simp [intOf]
        · have g0 : wr.cell? ⟨_, 3, none⟩ = some (.int .i64 20) := two_first _ wr _ _ _ _ hc2.out 3
          have run := hc2.out
          go_wp2_with (first | (go_at_call 16; refine (Binary_ok 20 _ _ _ VX.out VY.out (by omega) (by omega)).mono ?_; rintro e w5 ⟨rfl, hbb⟩; rw [L_S, L_S, E20.out]; replace run := belS run hbb (by simp); have g1 : w5.cell? ⟨_, 3, none⟩ = some (.bool true) := two_second _ w5 _ _ _ _ run 3))
          go_roundw
          case rel => exact ⟨4, by omega, rfl, run⟩
          case measure => simp [intOf]
        · have g0 : wr.cell? ⟨_, 4, none⟩ = some (.int .i64 21) := two_first _ wr _ _ _ _ hc2.out 4
          have run := hc2.out
          go_wp2_with (first | (go_at_call 16; refine (Binary_ok 21 _ _ _ VX.out VY.out (by omega) (by omega)).mono ?_; rintro e w5 ⟨rfl, hbb⟩; rw [L_S, L_S, E21.out]; replace run := belS run hbb (by simp); have g1 : w5.cell? ⟨_, 4, none⟩ = some (.bool false) := two_second _ w5 _ _ _ _ run 4))
          go_roundw
          case rel => exact ⟨5, by omega, rfl, run⟩
          case measure => simp [intOf]
        · have g0 : wr.cell? ⟨_, 5, none⟩ = some (.int .i64 22) := two_first _ wr _ _ _ _ hc2.out 5
          have run := hc2.out
          go_wp2_with (first | (go_at_call 16; refine (Binary_ok 22 _ _ _ VX.out VY.out (by omega) (by omega)).mono ?_; rintro e w5 ⟨rfl, hbb⟩; rw [L_S, L_S, E22.out]; replace run := belS run hbb (by simp); have g1 : w5.cell? ⟨_, 5, none⟩ = some (.bool true) := two_second _ w5 _ _ _ _ run 5))
          go_roundw
          case rel => exact ⟨6, by omega, rfl, run⟩
          case measure => simp [intOf]
        · have run := bel run0 ((belA (belA (Below.refl _ _) _) _).trans (hc2.out.mono (by omega)))
          go_wp2_with (first | (go_at_call 20; refine (Unary_ok 9 _ _ VX.out (by omega) (by omega)).mono ?_; rintro e w5 ⟨rfl, hbb⟩; rw [L_S, E9.out]; replace run := bel run hbb) | (go_at_call 27; refine (Number_ok z5 n5 W r5 _ Z5.out (by omega) (by omega) HM5.out k5).mono ?_; rintro e w6 ⟨rfl, hbb⟩; replace run := bel run hbb) | (go_at_call 19; refine (awake_c _).mono ?_; rintro e w3 ⟨rfl, hbb⟩; replace run := bel run hbb))
          go_ret
          exact ⟨rfl, run⟩
end Go.Proofs.Ytdacoincdkighaa
