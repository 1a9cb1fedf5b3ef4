/- The law LogicFolds: its walk. -/
import Derived.Test.YtdacoincdkighaaWY
namespace Go.Proofs.Ytdacoincdkighaa
open Go.RowKit Lg
set_option linter.unusedVariables false

def unaO : Obj := .cells #[.int .i64 10, .int .i64 11, .int .i64 12] 3
def twoO : Obj := .cells #[.int .i64 23, .int .i64 25, .int .i64 24] 3
def fstO : Obj := .cells #[.string ⟨#[49]⟩, .string ⟨#[48]⟩, .string ⟨#[48]⟩] 9
def fW (w : World) : World := ((w.alloc unaO).alloc twoO).alloc fstO
theorem fW_size (w : World) : (fW w).heap.size = w.heap.size + 3 := by simp [fW]
theorem belF {W a b : World} {B : Nat} (h : Below B W a) (k : Below a.heap.size a b) (hB : B ≤ W.heap.size) : Below B W b := h.trans (k.mono (Nat.le_trans hB h.size))
theorem f_una (w wr : World) (h : Below (w.heap.size + 3) (fW w) wr) (k : Nat) (hk : k < 3) : wr.cell? ⟨w.heap.size, k, none⟩ = some (.int .i64 (([10, 11, 12] : List Int).getD k 0)) := by
  rw [h.cell (by simp)]; unfold fW
  rw [World.cell?_alloc_past _ _ _ (by simp; omega), World.cell?_alloc_past _ _ _ (by simp)]
  rw [show (w.alloc unaO).cell? ⟨w.heap.size, k, none⟩ = (#[Value.int .i64 10, .int .i64 11, .int .i64 12] : Array Value)[k]? from World.cell?_alloc_at _ _ _ _ rfl]
  rcases (show k = 0 ∨ k = 1 ∨ k = 2 by omega) with rfl | rfl | rfl <;> rfl
theorem f_two (w wr : World) (h : Below (w.heap.size + 3) (fW w) wr) (k : Nat) (hk : k < 3) : wr.cell? ⟨w.heap.size + 1, k, none⟩ = some (.int .i64 (([23, 25, 24] : List Int).getD k 0)) := by
  rw [h.cell (by simp)]; unfold fW
  rw [World.cell?_alloc_past _ _ _ (by simp)]
  rw [show ((w.alloc unaO).alloc twoO).cell? ⟨w.heap.size + 1, k, none⟩ = (#[Value.int .i64 23, .int .i64 25, .int .i64 24] : Array Value)[k]? from World.cell?_alloc_at _ _ _ _ (by simp)]
  rcases (show k = 0 ∨ k = 1 ∨ k = 2 by omega) with rfl | rfl | rfl <;> rfl
theorem f_fst (w wr : World) (h : Below (w.heap.size + 3) (fW w) wr) (k : Nat) (hk : k < 3) : wr.cell? ⟨w.heap.size + 2, k, none⟩ = some (.string (([⟨#[49]⟩, ⟨#[48]⟩, ⟨#[48]⟩] : List ByteArray).getD k ByteArray.empty)) := by
  rw [h.cell (by simp)]; unfold fW
  rw [show (((w.alloc unaO).alloc twoO).alloc fstO).cell? ⟨w.heap.size + 2, k, none⟩ = (#[Value.string ⟨#[49]⟩, .string ⟨#[48]⟩, .string ⟨#[48]⟩] : Array Value)[k]? from World.cell?_alloc_at _ _ _ _ (by simp)]
  rcases (show k = 0 ∨ k = 1 ∨ k = 2 by omega) with rfl | rfl | rfl <;> rfl
theorem vec_one {c : UInt8} (h : bitB c = true) : vec (L (S [c])) = true := by rw [L_S]; exact vec_mk (by simp) (by simp) (by simp [h])
theorem one_str (s : ByteArray) (j : Nat) (h : j < s.size) : s.extract j (j + 1) = S [s[j]] := by
  apply L_inj; rw [L_extract, L_S, show j + 1 - j = 1 by omega]
  have hl : j < (L s).length := by rw [len_L]; exact h
  rw [List.drop_eq_getElem_cons hl, L_get s j h]; rfl
theorem sl_one (s : ByteArray) (j : Nat) (h : j < s.size) (w : World) : (Instr.slice 9 (.string s) (some (.int .i64 (j : Int))) (some (.int .i64 ((j : Int) + 1))) none).run Try.prog w = .ok (.string (S [s[j]])) w := by
  rw [run_slice_string_if _ _ _ _ _ _ _ Try.underlying9]
  rw [← one_str s j h]
  have e1 : ((j : Int) + 1).toNat = j + 1 := by omega
  have e2 : (j : Int).toNat = j := by omega
  rw [if_pos (by omega)]
  simp [e1]
  intro h; omega
theorem bin1_and (x y : UInt8) : binL 23 [x] [y] = [band x y] := bin_and [x] [y] rfl
theorem bin1_or (x y : UInt8) : binL 25 [x] [y] = [bor x y] := bin_or [x] [y] rfl
theorem bin1_xor (x y : UInt8) : binL 24 [x] [y] = [bxor x y] := by rw [bin_same 24 [x] [y] rfl (by decide)]; rfl
theorem una10 (a : List UInt8) : unaL 10 a = [fold band 49 a] := by unfold unaL; simp
theorem una11 (a : List UInt8) : unaL 11 a = [fold bor 48 a] := by unfold unaL tru; simp
theorem una12 (a : List UInt8) : unaL 12 a = [fold bxor 48 a] := by unfold unaL; simp

set_option maxHeartbeats 4000000 in
set_option maxRecDepth 100000 in
theorem LogicFolds_ok (s : ByteArray) (w : World) (hs1 : s.size ≤ maxLen) (va : vec (L s) = true) : Calls Try.prog 15 #[.string s] w fun e w' => e = .returned (.bool true) ∧ Below w.heap.size w w' := by
  have v1 := vec_len va
  rw [len_L] at v1
  obtain ⟨v1a, v1b⟩ := v1
  have VA : Hid _ := va
  go_enter Try.func15, Try.ntmps15
  go_wp2_with (first | (go_at_call 17; refine (may_c s _ hs1).mono ?_; rintro e w9 ⟨rfl, hw1⟩; have hw2 := hw1.symm; subst hw2))
  go_loopw [6] (fun i wr => ∃ k : Int, (k = 0 ∨ k = 1 ∨ k = 2 ∨ k = 3) ∧ i = .int .i64 k ∧ Hid (Below (w.heap.size + 3) (fW w) wr)) (fun i _ => (3 - intOf i).toNat)
  case atStart => exact ⟨0, by omega, rfl, Below.refl _ _⟩
  case round =>
    obtain ⟨k, hk, rfl, hb⟩ := hrel
    rcases hk with rfl | rfl | rfl | rfl
    · have g0 := f_fst w wr hb.out 0 (by omega)
      go_wp2
      go_loopw [7, 8] (fun tv kv w2 => ∃ (j : Nat) (t : UInt8), j ≤ s.size ∧ kv = .int .i64 j ∧ tv = .string (S [t]) ∧ Hid (t = fold band 49 ((L s).take j)) ∧ Hid (bitB t = true) ∧ Hid (Below (w.heap.size + 3) (fW w) w2)) (fun _ kv _ => s.size - (intOf kv).toNat)
      case atStart => exact ⟨0, 49, Nat.zero_le _, rfl, rfl, rfl, rfl, hb.out⟩
      case round =>
        obtain ⟨j, t, hj, rfl, rfl, HT, HB, hb2⟩ := hrel
        by_cases hlt : j < s.size
        · have hjI : (j : Int) < (s.size : Int) := by omega
          have hsl := sl_one s j hlt
          have hwr : IntKind.i64.wrap ((j : Int) + 1) = (j : Int) + 1 := by rw [IntKind.wrap_i64]; omega
          have g1 := f_two w _ hb2.out 0 (by omega)
          have HS : Hid _ := fold_next band 49 s j hlt t HT.out
          have hvb := vec_at s VA.out j hlt
          have HVB : Hid _ := hvb
          have run := hb2.out
          clear hvb
          go_wp2
          go_region_with (go_at_call 16; refine (Binary_ok 23 (S [t]) (S [s[j]]) _ (vec_one HB.out) (vec_one HVB.out) (by omega) (by omega)).mono ?_; rintro e w5 ⟨rfl, hbb⟩; rw [L_S, L_S, bin1_and]; replace run := belF (Below.drew run) hbb (by rw [fW_size]; omega))
          all_goals
            go_wp2
            go_roundw
            case rel => exact ⟨j + 1, band t s[j], by omega, by go_num, rfl, HS.out.symm, band_bit _ _, run⟩
            case measure => simp [intOf]; omega
        · have g2 := f_una w _ hb2.out 0 (by omega)
          have HE : Hid (t = fold band 49 (L s)) := by have := HT.out; rw [take_all s j (by omega)] at this; exact this
          have run := hb2.out
          go_wp2_with (go_at_call 20; refine (Unary_ok 10 s _ VA.out (by omega) (by omega)).mono ?_; rintro e w5 ⟨rfl, hbb⟩; rw [una10, ← HE.out]; replace run := belF run hbb (by rw [fW_size]; omega))
          go_roundw
          case rel => exact ⟨1, by omega, rfl, run⟩
          case measure => simp [intOf]
    · have g0 := f_fst w wr hb.out 1 (by omega)
      go_wp2
      go_loopw [7, 8] (fun tv kv w2 => ∃ (j : Nat) (t : UInt8), j ≤ s.size ∧ kv = .int .i64 j ∧ tv = .string (S [t]) ∧ Hid (t = fold bor 48 ((L s).take j)) ∧ Hid (bitB t = true) ∧ Hid (Below (w.heap.size + 3) (fW w) w2)) (fun _ kv _ => s.size - (intOf kv).toNat)
      case atStart => exact ⟨0, 48, Nat.zero_le _, rfl, rfl, rfl, rfl, hb.out⟩
      case round =>
        obtain ⟨j, t, hj, rfl, rfl, HT, HB, hb2⟩ := hrel
        by_cases hlt : j < s.size
        · have hjI : (j : Int) < (s.size : Int) := by omega
          have hsl := sl_one s j hlt
          have hwr : IntKind.i64.wrap ((j : Int) + 1) = (j : Int) + 1 := by rw [IntKind.wrap_i64]; omega
          have g1 := f_two w _ hb2.out 1 (by omega)
          have HS : Hid _ := fold_next bor 48 s j hlt t HT.out
          have hvb := vec_at s VA.out j hlt
          have HVB : Hid _ := hvb
          have run := hb2.out
          clear hvb
          go_wp2
          go_region_with (go_at_call 16; refine (Binary_ok 25 (S [t]) (S [s[j]]) _ (vec_one HB.out) (vec_one HVB.out) (by omega) (by omega)).mono ?_; rintro e w5 ⟨rfl, hbb⟩; rw [L_S, L_S, bin1_or]; replace run := belF (Below.drew run) hbb (by rw [fW_size]; omega))
          all_goals
            go_wp2
            go_roundw
            case rel => exact ⟨j + 1, bor t s[j], by omega, by go_num, rfl, HS.out.symm, bor_bit _ _, run⟩
            case measure => simp [intOf]; omega
        · have g2 := f_una w _ hb2.out 1 (by omega)
          have HE : Hid (t = fold bor 48 (L s)) := by have := HT.out; rw [take_all s j (by omega)] at this; exact this
          have run := hb2.out
          go_wp2_with (go_at_call 20; refine (Unary_ok 11 s _ VA.out (by omega) (by omega)).mono ?_; rintro e w5 ⟨rfl, hbb⟩; rw [una11, ← HE.out]; replace run := belF run hbb (by rw [fW_size]; omega))
          go_roundw
          case rel => exact ⟨2, by omega, rfl, run⟩
          case measure => simp [intOf]
    · have g0 := f_fst w wr hb.out 2 (by omega)
      go_wp2
      go_loopw [7, 8] (fun tv kv w2 => ∃ (j : Nat) (t : UInt8), j ≤ s.size ∧ kv = .int .i64 j ∧ tv = .string (S [t]) ∧ Hid (t = fold bxor 48 ((L s).take j)) ∧ Hid (bitB t = true) ∧ Hid (Below (w.heap.size + 3) (fW w) w2)) (fun _ kv _ => s.size - (intOf kv).toNat)
      case atStart => exact ⟨0, 48, Nat.zero_le _, rfl, rfl, rfl, rfl, hb.out⟩
      case round =>
        obtain ⟨j, t, hj, rfl, rfl, HT, HB, hb2⟩ := hrel
        by_cases hlt : j < s.size
        · have hjI : (j : Int) < (s.size : Int) := by omega
          have hsl := sl_one s j hlt
          have hwr : IntKind.i64.wrap ((j : Int) + 1) = (j : Int) + 1 := by rw [IntKind.wrap_i64]; omega
          have g1 := f_two w _ hb2.out 2 (by omega)
          have HS : Hid _ := fold_next bxor 48 s j hlt t HT.out
          have hvb := vec_at s VA.out j hlt
          have HVB : Hid _ := hvb
          have run := hb2.out
          clear hvb
          go_wp2
          go_region_with (go_at_call 16; refine (Binary_ok 24 (S [t]) (S [s[j]]) _ (vec_one HB.out) (vec_one HVB.out) (by omega) (by omega)).mono ?_; rintro e w5 ⟨rfl, hbb⟩; rw [L_S, L_S, bin1_xor]; replace run := belF (Below.drew run) hbb (by rw [fW_size]; omega))
          all_goals
            go_wp2
            go_roundw
            case rel => exact ⟨j + 1, bxor t s[j], by omega, by go_num, rfl, HS.out.symm, bxor_bit _ _, run⟩
            case measure => simp [intOf]; omega
        · have g2 := f_una w _ hb2.out 2 (by omega)
          have HE : Hid (t = fold bxor 48 (L s)) := by have := HT.out; rw [take_all s j (by omega)] at this; exact this
          have run := hb2.out
          go_wp2_with (go_at_call 20; refine (Unary_ok 12 s _ VA.out (by omega) (by omega)).mono ?_; rintro e w5 ⟨rfl, hbb⟩; rw [una12, ← HE.out]; replace run := belF run hbb (by rw [fW_size]; omega))
          go_roundw
          case rel => exact ⟨3, by omega, rfl, run⟩
          case measure => simp [intOf]
    · have run : Below w.heap.size w wr := (belA (belA (belA (Below.refl _ _) _) _) _).trans (hb.out.mono (by omega))
      go_wp2_with (go_at_call 19; refine (awake_c _).mono ?_; rintro e w3 ⟨rfl, hbb⟩; replace run := bel run hbb)
      go_ret
      exact ⟨rfl, run⟩
set_option maxHeartbeats 1000000 in
theorem LogicFolds_c (s : ByteArray) (w : World) (hs1 : s.size ≤ maxLen) : Calls Try.prog 15 #[.string s] w fun e w' => e = .returned (.bool true) ∧ Below w.heap.size w w' := by
  by_cases va : vec (L s) = true
  · exact LogicFolds_ok s w hs1 va
  · have va' : vec (L s) = false := by simpa using va
    go_enter Try.func15, Try.ntmps15
    go_wp2_with (first | (go_at_call 17; refine (may_c s _ hs1).mono ?_; rintro e w9 ⟨rfl, hw1⟩; have hw2 := hw1.symm; subst hw2) | (go_at_call 19; refine (awake_c _).mono ?_; rintro e w3 ⟨rfl, hb3⟩))
    go_ret
    exact ⟨rfl, hb3⟩
end Go.Proofs.Ytdacoincdkighaa
