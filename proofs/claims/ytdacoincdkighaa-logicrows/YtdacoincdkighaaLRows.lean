/- The law LogicRows: its walk. -/
import Derived.Test.YtdacoincdkighaaWY
import Derived.Test.YtdacoincdkighaaMath10
namespace Go.Proofs.Ytdacoincdkighaa
open Go.RowKit Lg
set_option linter.unusedVariables false

def opsO : Obj := .cells #[.int .i64 17, .int .i64 21, .int .i64 19] 3
def notO : Obj := .cells #[.int .i64 20, .int .i64 22, .int .i64 18] 3
theorem bel2 {W a b : World} {B : Nat} (h : Below B W a) (k : Below a.heap.size a b) (hB : B ≤ W.heap.size := by simp) : Below B W b := h.trans (k.mono (Nat.le_trans hB h.size))
theorem rows_cells0 (w wr : World) (h : Below (w.heap.size + 2) ((w.alloc opsO).alloc notO) wr) (k : Nat) (hk : k < 3) : wr.cell? ⟨w.heap.size, k, none⟩ = some (.int .i64 (([17, 21, 19] : List Int).getD k 0)) := by
  rw [h.cell (by simp), World.cell?_alloc_past _ _ _ (by simp)]
  rw [show (w.alloc opsO).cell? ⟨w.heap.size, k, none⟩ = (#[Value.int .i64 17, .int .i64 21, .int .i64 19] : Array Value)[k]? from World.cell?_alloc_at _ _ _ _ rfl]
  rcases (show k = 0 ∨ k = 1 ∨ k = 2 by omega) with rfl | rfl | rfl <;> rfl
theorem rows_cells1 (w wr : World) (h : Below (w.heap.size + 2) ((w.alloc opsO).alloc notO) wr) (k : Nat) (hk : k < 3) : wr.cell? ⟨w.heap.size + 1, k, none⟩ = some (.int .i64 (([20, 22, 18] : List Int).getD k 0)) := by
  rw [h.cell (by simp)]
  rw [show ((w.alloc opsO).alloc notO).cell? ⟨w.heap.size + 1, k, none⟩ = (#[Value.int .i64 20, .int .i64 22, .int .i64 18] : Array Value)[k]? from World.cell?_alloc_at _ _ _ _ (by simp)]
  rcases (show k = 0 ∨ k = 1 ∨ k = 2 by omega) with rfl | rfl | rfl <;> rfl
set_option maxHeartbeats 4000000 in
set_option maxRecDepth 100000 in
theorem LogicRowsLt (s t : ByteArray) (w : World) (hs1 : s.size ≤ maxLen) (hs2 : t.size ≤ maxLen) (va : vec (L s) = true) (vb : vec (L t) = true) (ka : kno (L s) = true) (kb : kno (L t) = true) (hl : ltF (L s) (L t) = true) (he : eqF (L s) (L t) = false) : Calls Try.prog 14 #[.string s, .string t] w fun e w' => e = .returned (.bool true) ∧ Below w.heap.size w w' := by
  have v1 := vec_len va
  have v2 := vec_len vb
  rw [len_L] at v1 v2
  obtain ⟨v1a, v1b⟩ := v1
  obtain ⟨v2a, v2b⟩ := v2
  have hcat : (s ++ t).size ≤ maxLen := by unfold maxLen; rw [ByteArray.size_append]; omega
  have VA : Hid _ := va
  have VB : Hid _ := vb
  have HK : Hid (kno (L (s ++ t)) = true) := show _ = _ from by rw [L_append, kno_app, ka, kb]; rfl
  have E17 : Hid (S (binL 17 (L s) (L t)) = ⟨#[49]⟩) := show _ = _ from by rw [cmp_known 17 _ _ (by omega) (by omega) ka kb, hold17, hl]; rfl
  have E18 : Hid (S (binL 18 (L s) (L t)) = ⟨#[49]⟩) := show _ = _ from by rw [cmp_known 18 _ _ (by omega) (by omega) ka kb, hold18, hl, he]; rfl
  have E19 : Hid (S (binL 19 (L s) (L t)) = ⟨#[48]⟩) := show _ = _ from by rw [cmp_known 19 _ _ (by omega) (by omega) ka kb, hold19, hl, he]; rfl
  have E20 : Hid (S (binL 20 (L s) (L t)) = ⟨#[48]⟩) := show _ = _ from by rw [cmp_known 20 _ _ (by omega) (by omega) ka kb, hold20, hl]; rfl
  have E21 : Hid (S (binL 21 (L s) (L t)) = ⟨#[48]⟩) := show _ = _ from by rw [cmp_known 21 _ _ (by omega) (by omega) ka kb, hold21, he]; rfl
  have E22 : Hid (S (binL 22 (L s) (L t)) = ⟨#[49]⟩) := show _ = _ from by rw [cmp_known 22 _ _ (by omega) (by omega) ka kb, hold22, he]; rfl
  clear hl he ka kb
  go_enter Try.func14, Try.ntmps14
  go_wp2_with (first | (go_at_call 17; refine (may_c _ _ (by first | exact hs1 | exact hs2)).mono ?_; rintro e w9 ⟨rfl, hw1⟩; have hw2 := hw1.symm; subst hw2))
  · skip
    go_loopw [7, 8] (fun ov i wr => ∃ k n : Nat, k ≤ 3 ∧ i = .int .i64 k ∧ ov = .int .i64 n ∧ Hid (n = ([0, 1, 1, 1] : List Nat).getD k 0) ∧ Hid (Below (w.heap.size + 2) ((w.alloc opsO).alloc notO) wr)) (fun _ i _ => 3 - (intOf i).toNat)
    case atStart => exact ⟨0, 0, by omega, rfl, rfl, rfl, Below.refl _ _⟩
    case round =>
      obtain ⟨k, n, hk, rfl, rfl, HN, hb⟩ := hrel
      have hn := HN.out
      rcases (show k = 0 ∨ k = 1 ∨ k = 2 ∨ k = 3 by omega) with rfl | rfl | rfl | rfl <;> simp at hn <;> subst hn
      · have g0 := rows_cells0 w wr hb.out 0 (by omega)
        have g1 := rows_cells1 w wr hb.out 0 (by omega)
        have run := hb.out
        go_wp2_with (first | (go_at_call_of 16 (Value.int IntKind.i64 17); refine (Binary_ok 17 s t _ VA.out VB.out (by omega) (by omega)).mono ?_; rintro e w2 ⟨rfl, hbb⟩; rw [E17.out]; replace run := bel2 run hbb; have g2 := rows_cells1 w w2 run 0 (by omega)) | (go_at_call_of 16 (Value.int IntKind.i64 20); refine (Binary_ok 20 s t _ VA.out VB.out (by omega) (by omega)).mono ?_; rintro e w2 ⟨rfl, hbb⟩; rw [E20.out]; replace run := bel2 run hbb) | (go_at_call 32; refine (rknown_c (s ++ t) _ hcat).mono ?_; rintro e w9 ⟨rfl, hw1⟩; have hw2 := hw1.symm; subst hw2; rw [HK.out]))
        go_roundw
        case rel => exact ⟨1, 1, by omega, by go_num, by go_num, rfl, run⟩
        case measure => simp [intOf]
      · have g0 := rows_cells0 w wr hb.out 1 (by omega)
        have g1 := rows_cells1 w wr hb.out 1 (by omega)
        have run := hb.out
        go_wp2_with (first | (go_at_call_of 16 (Value.int IntKind.i64 21); refine (Binary_ok 21 s t _ VA.out VB.out (by omega) (by omega)).mono ?_; rintro e w2 ⟨rfl, hbb⟩; rw [E21.out]; replace run := bel2 run hbb; have g2 := rows_cells1 w w2 run 1 (by omega)) | (go_at_call_of 16 (Value.int IntKind.i64 22); refine (Binary_ok 22 s t _ VA.out VB.out (by omega) (by omega)).mono ?_; rintro e w2 ⟨rfl, hbb⟩; rw [E22.out]; replace run := bel2 run hbb) | (go_at_call 32; refine (rknown_c (s ++ t) _ hcat).mono ?_; rintro e w9 ⟨rfl, hw1⟩; have hw2 := hw1.symm; subst hw2; rw [HK.out]))
        go_roundw
        case rel => exact ⟨2, 1, by omega, by go_num, by go_num, rfl, run⟩
        case measure => simp [intOf]
      · have g0 := rows_cells0 w wr hb.out 2 (by omega)
        have g1 := rows_cells1 w wr hb.out 2 (by omega)
        have run := hb.out
        go_wp2_with (first | (go_at_call_of 16 (Value.int IntKind.i64 19); refine (Binary_ok 19 s t _ VA.out VB.out (by omega) (by omega)).mono ?_; rintro e w2 ⟨rfl, hbb⟩; rw [E19.out]; replace run := bel2 run hbb; have g2 := rows_cells1 w w2 run 2 (by omega)) | (go_at_call_of 16 (Value.int IntKind.i64 18); refine (Binary_ok 18 s t _ VA.out VB.out (by omega) (by omega)).mono ?_; rintro e w2 ⟨rfl, hbb⟩; rw [E18.out]; replace run := bel2 run hbb) | (go_at_call 32; refine (rknown_c (s ++ t) _ hcat).mono ?_; rintro e w9 ⟨rfl, hw1⟩; have hw2 := hw1.symm; subst hw2; rw [HK.out]))
        go_roundw
        case rel => exact ⟨3, 1, by omega, by go_num, by go_num, rfl, run⟩
        case measure => simp [intOf]
      · have run : Below w.heap.size w wr := (belA (belA (Below.refl _ _) _) _).trans (hb.out.mono (by omega))
        go_wp2_with (first | (go_at_call 32; refine (rknown_c (s ++ t) _ hcat).mono ?_; rintro e w9 ⟨rfl, hw1⟩; have hw2 := hw1.symm; subst hw2; rw [HK.out]) | (go_at_call 19; refine (awake_c _).mono ?_; rintro e w3 ⟨rfl, hbb⟩; replace run := bel run hbb))
        go_ret
        exact ⟨rfl, run⟩
set_option maxHeartbeats 4000000 in
set_option maxRecDepth 100000 in
theorem LogicRowsEq (s t : ByteArray) (w : World) (hs1 : s.size ≤ maxLen) (hs2 : t.size ≤ maxLen) (va : vec (L s) = true) (vb : vec (L t) = true) (ka : kno (L s) = true) (kb : kno (L t) = true) (hl : ltF (L s) (L t) = false) (he : eqF (L s) (L t) = true) : Calls Try.prog 14 #[.string s, .string t] w fun e w' => e = .returned (.bool true) ∧ Below w.heap.size w w' := by
  have v1 := vec_len va
  have v2 := vec_len vb
  rw [len_L] at v1 v2
  obtain ⟨v1a, v1b⟩ := v1
  obtain ⟨v2a, v2b⟩ := v2
  have hcat : (s ++ t).size ≤ maxLen := by unfold maxLen; rw [ByteArray.size_append]; omega
  have VA : Hid _ := va
  have VB : Hid _ := vb
  have HK : Hid (kno (L (s ++ t)) = true) := show _ = _ from by rw [L_append, kno_app, ka, kb]; rfl
  have E17 : Hid (S (binL 17 (L s) (L t)) = ⟨#[48]⟩) := show _ = _ from by rw [cmp_known 17 _ _ (by omega) (by omega) ka kb, hold17, hl]; rfl
  have E18 : Hid (S (binL 18 (L s) (L t)) = ⟨#[49]⟩) := show _ = _ from by rw [cmp_known 18 _ _ (by omega) (by omega) ka kb, hold18, hl, he]; rfl
  have E19 : Hid (S (binL 19 (L s) (L t)) = ⟨#[48]⟩) := show _ = _ from by rw [cmp_known 19 _ _ (by omega) (by omega) ka kb, hold19, hl, he]; rfl
  have E20 : Hid (S (binL 20 (L s) (L t)) = ⟨#[49]⟩) := show _ = _ from by rw [cmp_known 20 _ _ (by omega) (by omega) ka kb, hold20, hl]; rfl
  have E21 : Hid (S (binL 21 (L s) (L t)) = ⟨#[49]⟩) := show _ = _ from by rw [cmp_known 21 _ _ (by omega) (by omega) ka kb, hold21, he]; rfl
  have E22 : Hid (S (binL 22 (L s) (L t)) = ⟨#[48]⟩) := show _ = _ from by rw [cmp_known 22 _ _ (by omega) (by omega) ka kb, hold22, he]; rfl
  clear hl he ka kb
  go_enter Try.func14, Try.ntmps14
  go_wp2_with (first | (go_at_call 17; refine (may_c _ _ (by first | exact hs1 | exact hs2)).mono ?_; rintro e w9 ⟨rfl, hw1⟩; have hw2 := hw1.symm; subst hw2))
  · skip
    go_loopw [7, 8] (fun ov i wr => ∃ k n : Nat, k ≤ 3 ∧ i = .int .i64 k ∧ ov = .int .i64 n ∧ Hid (n = ([0, 0, 1, 1] : List Nat).getD k 0) ∧ Hid (Below (w.heap.size + 2) ((w.alloc opsO).alloc notO) wr)) (fun _ i _ => 3 - (intOf i).toNat)
    case atStart => exact ⟨0, 0, by omega, rfl, rfl, rfl, Below.refl _ _⟩
    case round =>
      obtain ⟨k, n, hk, rfl, rfl, HN, hb⟩ := hrel
      have hn := HN.out
      rcases (show k = 0 ∨ k = 1 ∨ k = 2 ∨ k = 3 by omega) with rfl | rfl | rfl | rfl <;> simp at hn <;> subst hn
      · have g0 := rows_cells0 w wr hb.out 0 (by omega)
        have g1 := rows_cells1 w wr hb.out 0 (by omega)
        have run := hb.out
        go_wp2_with (first | (go_at_call_of 16 (Value.int IntKind.i64 17); refine (Binary_ok 17 s t _ VA.out VB.out (by omega) (by omega)).mono ?_; rintro e w2 ⟨rfl, hbb⟩; rw [E17.out]; replace run := bel2 run hbb; have g2 := rows_cells1 w w2 run 0 (by omega)) | (go_at_call_of 16 (Value.int IntKind.i64 20); refine (Binary_ok 20 s t _ VA.out VB.out (by omega) (by omega)).mono ?_; rintro e w2 ⟨rfl, hbb⟩; rw [E20.out]; replace run := bel2 run hbb) | (go_at_call 32; refine (rknown_c (s ++ t) _ hcat).mono ?_; rintro e w9 ⟨rfl, hw1⟩; have hw2 := hw1.symm; subst hw2; rw [HK.out]))
        go_roundw
        case rel => exact ⟨1, 0, by omega, by go_num, by go_num, rfl, run⟩
        case measure => simp [intOf]
      · have g0 := rows_cells0 w wr hb.out 1 (by omega)
        have g1 := rows_cells1 w wr hb.out 1 (by omega)
        have run := hb.out
        go_wp2_with (first | (go_at_call_of 16 (Value.int IntKind.i64 21); refine (Binary_ok 21 s t _ VA.out VB.out (by omega) (by omega)).mono ?_; rintro e w2 ⟨rfl, hbb⟩; rw [E21.out]; replace run := bel2 run hbb; have g2 := rows_cells1 w w2 run 1 (by omega)) | (go_at_call_of 16 (Value.int IntKind.i64 22); refine (Binary_ok 22 s t _ VA.out VB.out (by omega) (by omega)).mono ?_; rintro e w2 ⟨rfl, hbb⟩; rw [E22.out]; replace run := bel2 run hbb) | (go_at_call 32; refine (rknown_c (s ++ t) _ hcat).mono ?_; rintro e w9 ⟨rfl, hw1⟩; have hw2 := hw1.symm; subst hw2; rw [HK.out]))
        go_roundw
        case rel => exact ⟨2, 1, by omega, by go_num, by go_num, rfl, run⟩
        case measure => simp [intOf]
      · have g0 := rows_cells0 w wr hb.out 2 (by omega)
        have g1 := rows_cells1 w wr hb.out 2 (by omega)
        have run := hb.out
        go_wp2_with (first | (go_at_call_of 16 (Value.int IntKind.i64 19); refine (Binary_ok 19 s t _ VA.out VB.out (by omega) (by omega)).mono ?_; rintro e w2 ⟨rfl, hbb⟩; rw [E19.out]; replace run := bel2 run hbb; have g2 := rows_cells1 w w2 run 2 (by omega)) | (go_at_call_of 16 (Value.int IntKind.i64 18); refine (Binary_ok 18 s t _ VA.out VB.out (by omega) (by omega)).mono ?_; rintro e w2 ⟨rfl, hbb⟩; rw [E18.out]; replace run := bel2 run hbb) | (go_at_call 32; refine (rknown_c (s ++ t) _ hcat).mono ?_; rintro e w9 ⟨rfl, hw1⟩; have hw2 := hw1.symm; subst hw2; rw [HK.out]))
        go_roundw
        case rel => exact ⟨3, 1, by omega, by go_num, by go_num, rfl, run⟩
        case measure => simp [intOf]
      · have run : Below w.heap.size w wr := (belA (belA (Below.refl _ _) _) _).trans (hb.out.mono (by omega))
        go_wp2_with (first | (go_at_call 32; refine (rknown_c (s ++ t) _ hcat).mono ?_; rintro e w9 ⟨rfl, hw1⟩; have hw2 := hw1.symm; subst hw2; rw [HK.out]) | (go_at_call 19; refine (awake_c _).mono ?_; rintro e w3 ⟨rfl, hbb⟩; replace run := bel run hbb))
        go_ret
        exact ⟨rfl, run⟩
set_option maxHeartbeats 4000000 in
set_option maxRecDepth 100000 in
theorem LogicRowsGt (s t : ByteArray) (w : World) (hs1 : s.size ≤ maxLen) (hs2 : t.size ≤ maxLen) (va : vec (L s) = true) (vb : vec (L t) = true) (ka : kno (L s) = true) (kb : kno (L t) = true) (hl : ltF (L s) (L t) = false) (he : eqF (L s) (L t) = false) : Calls Try.prog 14 #[.string s, .string t] w fun e w' => e = .returned (.bool true) ∧ Below w.heap.size w w' := by
  have v1 := vec_len va
  have v2 := vec_len vb
  rw [len_L] at v1 v2
  obtain ⟨v1a, v1b⟩ := v1
  obtain ⟨v2a, v2b⟩ := v2
  have hcat : (s ++ t).size ≤ maxLen := by unfold maxLen; rw [ByteArray.size_append]; omega
  have VA : Hid _ := va
  have VB : Hid _ := vb
  have HK : Hid (kno (L (s ++ t)) = true) := show _ = _ from by rw [L_append, kno_app, ka, kb]; rfl
  have E17 : Hid (S (binL 17 (L s) (L t)) = ⟨#[48]⟩) := show _ = _ from by rw [cmp_known 17 _ _ (by omega) (by omega) ka kb, hold17, hl]; rfl
  have E18 : Hid (S (binL 18 (L s) (L t)) = ⟨#[48]⟩) := show _ = _ from by rw [cmp_known 18 _ _ (by omega) (by omega) ka kb, hold18, hl, he]; rfl
  have E19 : Hid (S (binL 19 (L s) (L t)) = ⟨#[49]⟩) := show _ = _ from by rw [cmp_known 19 _ _ (by omega) (by omega) ka kb, hold19, hl, he]; rfl
  have E20 : Hid (S (binL 20 (L s) (L t)) = ⟨#[49]⟩) := show _ = _ from by rw [cmp_known 20 _ _ (by omega) (by omega) ka kb, hold20, hl]; rfl
  have E21 : Hid (S (binL 21 (L s) (L t)) = ⟨#[48]⟩) := show _ = _ from by rw [cmp_known 21 _ _ (by omega) (by omega) ka kb, hold21, he]; rfl
  have E22 : Hid (S (binL 22 (L s) (L t)) = ⟨#[49]⟩) := show _ = _ from by rw [cmp_known 22 _ _ (by omega) (by omega) ka kb, hold22, he]; rfl
  clear hl he ka kb
  go_enter Try.func14, Try.ntmps14
  go_wp2_with (first | (go_at_call 17; refine (may_c _ _ (by first | exact hs1 | exact hs2)).mono ?_; rintro e w9 ⟨rfl, hw1⟩; have hw2 := hw1.symm; subst hw2))
  · skip
    go_loopw [7, 8] (fun ov i wr => ∃ k n : Nat, k ≤ 3 ∧ i = .int .i64 k ∧ ov = .int .i64 n ∧ Hid (n = ([0, 0, 0, 1] : List Nat).getD k 0) ∧ Hid (Below (w.heap.size + 2) ((w.alloc opsO).alloc notO) wr)) (fun _ i _ => 3 - (intOf i).toNat)
    case atStart => exact ⟨0, 0, by omega, rfl, rfl, rfl, Below.refl _ _⟩
    case round =>
      obtain ⟨k, n, hk, rfl, rfl, HN, hb⟩ := hrel
      have hn := HN.out
      rcases (show k = 0 ∨ k = 1 ∨ k = 2 ∨ k = 3 by omega) with rfl | rfl | rfl | rfl <;> simp at hn <;> subst hn
      · have g0 := rows_cells0 w wr hb.out 0 (by omega)
        have g1 := rows_cells1 w wr hb.out 0 (by omega)
        have run := hb.out
        go_wp2_with (first | (go_at_call_of 16 (Value.int IntKind.i64 17); refine (Binary_ok 17 s t _ VA.out VB.out (by omega) (by omega)).mono ?_; rintro e w2 ⟨rfl, hbb⟩; rw [E17.out]; replace run := bel2 run hbb; have g2 := rows_cells1 w w2 run 0 (by omega)) | (go_at_call_of 16 (Value.int IntKind.i64 20); refine (Binary_ok 20 s t _ VA.out VB.out (by omega) (by omega)).mono ?_; rintro e w2 ⟨rfl, hbb⟩; rw [E20.out]; replace run := bel2 run hbb) | (go_at_call 32; refine (rknown_c (s ++ t) _ hcat).mono ?_; rintro e w9 ⟨rfl, hw1⟩; have hw2 := hw1.symm; subst hw2; rw [HK.out]))
        go_roundw
        case rel => exact ⟨1, 0, by omega, by go_num, by go_num, rfl, run⟩
        case measure => simp [intOf]
      · have g0 := rows_cells0 w wr hb.out 1 (by omega)
        have g1 := rows_cells1 w wr hb.out 1 (by omega)
        have run := hb.out
        go_wp2_with (first | (go_at_call_of 16 (Value.int IntKind.i64 21); refine (Binary_ok 21 s t _ VA.out VB.out (by omega) (by omega)).mono ?_; rintro e w2 ⟨rfl, hbb⟩; rw [E21.out]; replace run := bel2 run hbb; have g2 := rows_cells1 w w2 run 1 (by omega)) | (go_at_call_of 16 (Value.int IntKind.i64 22); refine (Binary_ok 22 s t _ VA.out VB.out (by omega) (by omega)).mono ?_; rintro e w2 ⟨rfl, hbb⟩; rw [E22.out]; replace run := bel2 run hbb) | (go_at_call 32; refine (rknown_c (s ++ t) _ hcat).mono ?_; rintro e w9 ⟨rfl, hw1⟩; have hw2 := hw1.symm; subst hw2; rw [HK.out]))
        go_roundw
        case rel => exact ⟨2, 0, by omega, by go_num, by go_num, rfl, run⟩
        case measure => simp [intOf]
      · have g0 := rows_cells0 w wr hb.out 2 (by omega)
        have g1 := rows_cells1 w wr hb.out 2 (by omega)
        have run := hb.out
        go_wp2_with (first | (go_at_call_of 16 (Value.int IntKind.i64 19); refine (Binary_ok 19 s t _ VA.out VB.out (by omega) (by omega)).mono ?_; rintro e w2 ⟨rfl, hbb⟩; rw [E19.out]; replace run := bel2 run hbb; have g2 := rows_cells1 w w2 run 2 (by omega)) | (go_at_call_of 16 (Value.int IntKind.i64 18); refine (Binary_ok 18 s t _ VA.out VB.out (by omega) (by omega)).mono ?_; rintro e w2 ⟨rfl, hbb⟩; rw [E18.out]; replace run := bel2 run hbb) | (go_at_call 32; refine (rknown_c (s ++ t) _ hcat).mono ?_; rintro e w9 ⟨rfl, hw1⟩; have hw2 := hw1.symm; subst hw2; rw [HK.out]))
        go_roundw
        case rel => exact ⟨3, 1, by omega, by go_num, by go_num, rfl, run⟩
        case measure => simp [intOf]
      · have run : Below w.heap.size w wr := (belA (belA (Below.refl _ _) _) _).trans (hb.out.mono (by omega))
        go_wp2_with (first | (go_at_call 32; refine (rknown_c (s ++ t) _ hcat).mono ?_; rintro e w9 ⟨rfl, hw1⟩; have hw2 := hw1.symm; subst hw2; rw [HK.out]) | (go_at_call 19; refine (awake_c _).mono ?_; rintro e w3 ⟨rfl, hbb⟩; replace run := bel run hbb))
        go_ret
        exact ⟨rfl, run⟩
set_option maxHeartbeats 4000000 in
set_option maxRecDepth 100000 in
theorem LogicRowsUn (s t : ByteArray) (w : World) (hs1 : s.size ≤ maxLen) (hs2 : t.size ≤ maxLen) (va : vec (L s) = true) (vb : vec (L t) = true) (kk : (kno (L s) && kno (L t)) = false) : Calls Try.prog 14 #[.string s, .string t] w fun e w' => e = .returned (.bool true) ∧ Below w.heap.size w w' := by
  have v1 := vec_len va
  have v2 := vec_len vb
  rw [len_L] at v1 v2
  obtain ⟨v1a, v1b⟩ := v1
  obtain ⟨v2a, v2b⟩ := v2
  have hcat : (s ++ t).size ≤ maxLen := by unfold maxLen; rw [ByteArray.size_append]; omega
  have VA : Hid _ := va
  have VB : Hid _ := vb
  have HK : Hid (kno (L (s ++ t)) = false) := show _ = _ from by rw [L_append, kno_app, kk]
  have E17 : Hid (S (binL 17 (L s) (L t)) = ⟨#[120]⟩) := show _ = _ from by rw [cmp_unknown 17 _ _ (by omega) (by omega) kk]; rfl
  have E18 : Hid (S (binL 18 (L s) (L t)) = ⟨#[120]⟩) := show _ = _ from by rw [cmp_unknown 18 _ _ (by omega) (by omega) kk]; rfl
  have E19 : Hid (S (binL 19 (L s) (L t)) = ⟨#[120]⟩) := show _ = _ from by rw [cmp_unknown 19 _ _ (by omega) (by omega) kk]; rfl
  have E20 : Hid (S (binL 20 (L s) (L t)) = ⟨#[120]⟩) := show _ = _ from by rw [cmp_unknown 20 _ _ (by omega) (by omega) kk]; rfl
  have E21 : Hid (S (binL 21 (L s) (L t)) = ⟨#[120]⟩) := show _ = _ from by rw [cmp_unknown 21 _ _ (by omega) (by omega) kk]; rfl
  have E22 : Hid (S (binL 22 (L s) (L t)) = ⟨#[120]⟩) := show _ = _ from by rw [cmp_unknown 22 _ _ (by omega) (by omega) kk]; rfl
  clear kk
  go_enter Try.func14, Try.ntmps14
  go_wp2_with (first | (go_at_call 17; refine (may_c _ _ (by first | exact hs1 | exact hs2)).mono ?_; rintro e w9 ⟨rfl, hw1⟩; have hw2 := hw1.symm; subst hw2))
  · skip
    go_loopw [7, 8] (fun ov i wr => ∃ k n : Nat, k ≤ 3 ∧ i = .int .i64 k ∧ ov = .int .i64 n ∧ Hid (n = ([0, 0, 0, 0] : List Nat).getD k 0) ∧ Hid (Below (w.heap.size + 2) ((w.alloc opsO).alloc notO) wr)) (fun _ i _ => 3 - (intOf i).toNat)
    case atStart => exact ⟨0, 0, by omega, rfl, rfl, rfl, Below.refl _ _⟩
    case round =>
      obtain ⟨k, n, hk, rfl, rfl, HN, hb⟩ := hrel
      have hn := HN.out
      rcases (show k = 0 ∨ k = 1 ∨ k = 2 ∨ k = 3 by omega) with rfl | rfl | rfl | rfl <;> simp at hn <;> subst hn
      · have g0 := rows_cells0 w wr hb.out 0 (by omega)
        have g1 := rows_cells1 w wr hb.out 0 (by omega)
        have run := hb.out
        go_wp2_with (first | (go_at_call_of 16 (Value.int IntKind.i64 17); refine (Binary_ok 17 s t _ VA.out VB.out (by omega) (by omega)).mono ?_; rintro e w2 ⟨rfl, hbb⟩; rw [E17.out]; replace run := bel2 run hbb; have g2 := rows_cells1 w w2 run 0 (by omega)) | (go_at_call_of 16 (Value.int IntKind.i64 20); refine (Binary_ok 20 s t _ VA.out VB.out (by omega) (by omega)).mono ?_; rintro e w2 ⟨rfl, hbb⟩; rw [E20.out]; replace run := bel2 run hbb) | (go_at_call 32; refine (rknown_c (s ++ t) _ hcat).mono ?_; rintro e w9 ⟨rfl, hw1⟩; have hw2 := hw1.symm; subst hw2; rw [HK.out]))
        go_roundw
        case rel => exact ⟨1, 0, by omega, by go_num, by go_num, rfl, run⟩
        case measure => simp [intOf]
      · have g0 := rows_cells0 w wr hb.out 1 (by omega)
        have g1 := rows_cells1 w wr hb.out 1 (by omega)
        have run := hb.out
        go_wp2_with (first | (go_at_call_of 16 (Value.int IntKind.i64 21); refine (Binary_ok 21 s t _ VA.out VB.out (by omega) (by omega)).mono ?_; rintro e w2 ⟨rfl, hbb⟩; rw [E21.out]; replace run := bel2 run hbb; have g2 := rows_cells1 w w2 run 1 (by omega)) | (go_at_call_of 16 (Value.int IntKind.i64 22); refine (Binary_ok 22 s t _ VA.out VB.out (by omega) (by omega)).mono ?_; rintro e w2 ⟨rfl, hbb⟩; rw [E22.out]; replace run := bel2 run hbb) | (go_at_call 32; refine (rknown_c (s ++ t) _ hcat).mono ?_; rintro e w9 ⟨rfl, hw1⟩; have hw2 := hw1.symm; subst hw2; rw [HK.out]))
        go_roundw
        case rel => exact ⟨2, 0, by omega, by go_num, by go_num, rfl, run⟩
        case measure => simp [intOf]
      · have g0 := rows_cells0 w wr hb.out 2 (by omega)
        have g1 := rows_cells1 w wr hb.out 2 (by omega)
        have run := hb.out
        go_wp2_with (first | (go_at_call_of 16 (Value.int IntKind.i64 19); refine (Binary_ok 19 s t _ VA.out VB.out (by omega) (by omega)).mono ?_; rintro e w2 ⟨rfl, hbb⟩; rw [E19.out]; replace run := bel2 run hbb; have g2 := rows_cells1 w w2 run 2 (by omega)) | (go_at_call_of 16 (Value.int IntKind.i64 18); refine (Binary_ok 18 s t _ VA.out VB.out (by omega) (by omega)).mono ?_; rintro e w2 ⟨rfl, hbb⟩; rw [E18.out]; replace run := bel2 run hbb) | (go_at_call 32; refine (rknown_c (s ++ t) _ hcat).mono ?_; rintro e w9 ⟨rfl, hw1⟩; have hw2 := hw1.symm; subst hw2; rw [HK.out]))
        go_roundw
        case rel => exact ⟨3, 0, by omega, by go_num, by go_num, rfl, run⟩
        case measure => simp [intOf]
      · have run : Below w.heap.size w wr := (belA (belA (Below.refl _ _) _) _).trans (hb.out.mono (by omega))
        go_wp2_with (first | (go_at_call 32; refine (rknown_c (s ++ t) _ hcat).mono ?_; rintro e w9 ⟨rfl, hw1⟩; have hw2 := hw1.symm; subst hw2; rw [HK.out]) | (go_at_call 19; refine (awake_c _).mono ?_; rintro e w3 ⟨rfl, hbb⟩; replace run := bel run hbb))
        go_ret
        exact ⟨rfl, run⟩
set_option maxHeartbeats 1000000 in
theorem LogicRows_c (s t : ByteArray) (w : World) (hs1 : s.size ≤ maxLen) (hs2 : t.size ≤ maxLen) : Calls Try.prog 14 #[.string s, .string t] w fun e w' => e = .returned (.bool true) ∧ Below w.heap.size w w' := by
  by_cases va : vec (L s) = true
  · by_cases vb : vec (L t) = true
    · by_cases kk : (kno (L s) && kno (L t)) = true
      · have k2 := (Bool.and_eq_true _ _).mp kk
        cases hl : ltF (L s) (L t) <;> cases he : eqF (L s) (L t)
        · exact LogicRowsGt s t w hs1 hs2 va vb k2.1 k2.2 hl he
        · exact LogicRowsEq s t w hs1 hs2 va vb k2.1 k2.2 hl he
        · exact LogicRowsLt s t w hs1 hs2 va vb k2.1 k2.2 hl he
        · exact (not_both _ _ hl he).elim
      · exact LogicRowsUn s t w hs1 hs2 va vb (by simpa using kk)
    · have vb' : vec (L t) = false := by simpa using vb
      go_enter Try.func14, Try.ntmps14
      go_wp2_with (first | (go_at_call 17; refine (may_c _ _ (by first | exact hs1 | exact hs2)).mono ?_; rintro e w9 ⟨rfl, hw1⟩; have hw2 := hw1.symm; subst hw2) | (go_at_call 19; refine (awake_c _).mono ?_; rintro e w3 ⟨rfl, hb3⟩))
      go_ret
      exact ⟨rfl, hb3⟩
  · have va' : vec (L s) = false := by simpa using va
    go_enter Try.func14, Try.ntmps14
    go_wp2_with (first | (go_at_call 17; refine (may_c _ _ (by first | exact hs1 | exact hs2)).mono ?_; rintro e w9 ⟨rfl, hw1⟩; have hw2 := hw1.symm; subst hw2) | (go_at_call 19; refine (awake_c _).mono ?_; rintro e w3 ⟨rfl, hb3⟩))
    go_ret
    exact ⟨rfl, hb3⟩
end Go.Proofs.Ytdacoincdkighaa
