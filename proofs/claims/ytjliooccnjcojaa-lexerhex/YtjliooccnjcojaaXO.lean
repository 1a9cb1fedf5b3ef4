/- Layer 2: a number by hexadecimal digits is that by four bits each. -/
import Derived.Test.YtjliooccnjcojaaXN
namespace Go.Proofs.Ytjliooccnjcojaa
open Go.RowKit Lg
set_option linter.unusedVariables false
set_option linter.unusedSimpArgs false

theorem cat4_snoc {h b : List UInt8} (c : UInt8) (d : List UInt8) (hc : cat 4 h = some b) (hd : dgt 4 c = some d) : cat 4 (h ++ [c]) = some (b ++ d) := cat_snoc hc hd
theorem app_L (A : ByteArray) (c : UInt8) (b : List UInt8) (h : L A = b) : L (A ++ (⟨#[c]⟩ : ByteArray)) = b ++ [c] := by rw [L_append, h]; rfl

def fourRow : Array Value := #[.string ⟨#[48, 48, 48, 48]⟩, .string ⟨#[48, 48, 48, 49]⟩, .string ⟨#[48, 48, 49, 48]⟩, .string ⟨#[48, 48, 49, 49]⟩, .string ⟨#[48, 49, 48, 48]⟩, .string ⟨#[48, 49, 48, 49]⟩, .string ⟨#[48, 49, 49, 48]⟩, .string ⟨#[48, 49, 49, 49]⟩, .string ⟨#[49, 48, 48, 48]⟩, .string ⟨#[49, 48, 48, 49]⟩, .string ⟨#[49, 48, 49, 48]⟩, .string ⟨#[49, 48, 49, 49]⟩, .string ⟨#[49, 49, 48, 48]⟩, .string ⟨#[49, 49, 48, 49]⟩, .string ⟨#[49, 49, 49, 48]⟩, .string ⟨#[49, 49, 49, 49]⟩, .string ⟨#[120, 120, 120, 120]⟩, .string ⟨#[122, 122, 122, 122]⟩]
set_option maxRecDepth 100000 in
set_option maxHeartbeats 16000000 in
theorem hex_yes (b0 off len cap : Nat) (zs : List Int) (wide : Int) (m : Int) (w : World) (hlen1 : 1 ≤ len) (hlen2 : len ≤ 60) (hb0 : b0 < w.heap.size) (hzl : len ≤ zs.length)
    (hcell : ∀ i, i < len → w.cell? ⟨b0, off + i, none⟩ = some (.int .i64 (zs.getD i 0))) (hm : w.cell? ⟨0, 0, none⟩ = some (.int .i64 m)) (h0 : 0 < w.heap.size) :
    Calls Try.prog 8 #[.slice (some ⟨b0, off, none⟩) len cap, .int .i64 wide] w fun e w' => e = .returned (.bool true) ∧ Below w.heap.size w w' := by
  have HC : Hid (∀ i, i < len → w.cell? ⟨b0, off + i, none⟩ = some (.int .i64 (zs.getD i 0))) := hcell
  clear hcell
  obtain ⟨q, hq, hq2⟩ : ∃ q : Nat, bits .and .i64 wide 255 = (q : Int) ∧ q ≤ 255 := by
    have := i64_maskAny wide 8 (by decide)
    have h3 : 0 ≤ wide % ((2 ^ 8 : Nat) : Int) := Int.emod_nonneg _ (by decide)
    have h4 : wide % ((2 ^ 8 : Nat) : Int) < ((2 ^ 8 : Nat) : Int) := Int.emod_lt_of_pos _ (by decide)
    obtain ⟨q, hq⟩ := Int.eq_ofNat_of_zero_le h3
    exact ⟨q, this.trans hq, by rw [hq] at h4; have : ((2 ^ 8 : Nat) : Int) = 256 := by decide
                                omega⟩
  have hbw : ∀ o, Below w.heap.size w (w.alloc o) := fun o => belA (Below.refl _ _) o
  have HBW : Hid _ := hbw
  have hle0 : ((len : Int) == 0) = false := by rw [beq_eq_false_iff_ne]; omega
  clear hbw
  go_enter Try.func8, Try.ntmps8
  go_wp2
  go_loopw [8, 9] (fun sv kv wr => ∃ (k : Nat) (A : ByteArray), k ≤ 256 ∧ kv = .int .i64 k ∧ sv = .string A ∧ A.size ≤ 256 - k ∧ Hid (decF k ++ L A = decF (1 + q)) ∧ Hid (Below (w.heap.size + 1) (w.alloc (.cells fourRow 9)) wr)) (fun _ kv _ => (intOf kv).toNat)
  case atStart => exact ⟨1 + q, ⟨#[]⟩, by omega, by go_num, rfl, Nat.zero_le _, by show Hid (decF (1 + q) ++ [] = decF (1 + q)); rw [List.append_nil]; exact rfl, Below.refl _ _⟩
  case round =>
    obtain ⟨k, A, hk, rfl, rfl, hA, HD, HB⟩ := hrel
    by_cases hk0 : 0 < k
    · obtain ⟨c, hc⟩ : ∃ c, UInt8.ofNat (48 + k % 10) = c := ⟨_, rfl⟩
      have h1 : (convert 39 9 (.slice (some ⟨wr.heap.size, 0, none⟩) 1 1)).run Try.prog (wr.alloc (.cells #[.int .u8 (48 + (k : Int) % 10)] 5)) = .ok (.string ⟨#[c]⟩) (wr.alloc (.cells #[.int .u8 (48 + (k : Int) % 10)] 5)) := by
        have := one_c c wr
        rw [← hc, dig_nat _ (by omega)] at this
        rw [← hc]
        have e : ((48 + k % 10 : Nat) : Int) = 48 + (k : Int) % 10 := by omega
        rw [e] at this
        exact this
      have HCC : Hid (UInt8.ofNat (48 + k % 10) = c) := hc
      clear hc
      go_wp2
      go_roundw
      case rel => exact ⟨k / 10, (⟨#[c]⟩ : ByteArray) ++ A, by omega, by go_num, rfl, by rw [one_sz]; omega, dec_step hk0 rfl c HCC.out HD.out, HB.out.alloc (Nat.le_trans (by simp) HB.out.size) _⟩
      case measure => simp [intOf]; omega
    · have hk1 : k = 0 := by omega
      subst hk1
      have hAd : L A = decF (1 + q) := by have := HD.out; rw [decF_zero] at this; exact this
      have HAD : Hid _ := hAd
      have hfr : ∀ j, j < 18 → wr.cell? ⟨w.heap.size, j, none⟩ = fourRow[j]? := by
        intro j hj
        rw [HB.out.cell (p := ⟨w.heap.size, j, none⟩) (by simp), World.cell?_alloc_at _ _ _ _ rfl]
      have HFR : Hid _ := hfr
      have hdc : ∀ i, i < len → wr.cell? ⟨b0, off + i, none⟩ = some (.int .i64 (zs.getD i 0)) := by
        intro i hi
        rw [HB.out.cell (p := ⟨b0, off + i, none⟩) (by simp; omega), ← HC.out i hi]
        exact (HBW.out _).cell (p := ⟨b0, off + i, none⟩) hb0
      have HDC : Hid _ := hdc
      have hA2 : A.size ≤ 256 := by omega
      clear hAd HD hfr hdc hA
      go_wp2
      go_loop [10, 11, 12, 13] (fun hv bv iv kv => ∃ (i : Nat) (X Y : ByteArray), i ≤ len ∧ iv = .int .i64 i ∧ hv = .string X ∧ bv = .string Y ∧ X.size = i ∧ Y.size = 4 * i ∧ Hid (cat 4 (L X) = some (L Y))) (fun _ _ iv _ => len - (intOf iv).toNat)
      case atStart => exact ⟨0, ⟨#[]⟩, ⟨#[]⟩, Nat.zero_le _, rfl, rfl, rfl, rfl, rfl, rfl⟩
      case round =>
        obtain ⟨i, X, Y, hi, rfl, rfl, rfl, hX, hY, HXY⟩ := hrel
        by_cases hlt : i < len
        · have hci := HDC.out i hlt
          obtain ⟨z, hz⟩ : ∃ z, z = zs.getD i 0 := ⟨_, rfl⟩
          rw [← hz] at hci
          obtain ⟨u, hu, hu2⟩ : ∃ u : Nat, bits .and .i64 z 65535 = (u : Int) ∧ u ≤ 65535 := by
            have := i64_maskAny z 16 (by decide)
            have h3 : 0 ≤ z % ((2 ^ 16 : Nat) : Int) := Int.emod_nonneg _ (by decide)
            have h4 : z % ((2 ^ 16 : Nat) : Int) < ((2 ^ 16 : Nat) : Int) := Int.emod_lt_of_pos _ (by decide)
            obtain ⟨u, hu⟩ := Int.eq_ofNat_of_zero_le h3
            exact ⟨u, this.trans hu, by rw [hu] at h4; have : ((2 ^ 16 : Nat) : Int) = 65536 := by decide
                                        omega⟩
          clear hz
          have hrr : u % 18 = 0 ∨ u % 18 = 1 ∨ u % 18 = 2 ∨ u % 18 = 3 ∨ u % 18 = 4 ∨ u % 18 = 5 ∨ u % 18 = 6 ∨ u % 18 = 7 ∨ u % 18 = 8 ∨ u % 18 = 9 ∨ u % 18 = 10 ∨ u % 18 = 11 ∨ u % 18 = 12 ∨ u % 18 = 13 ∨ u % 18 = 14 ∨ u % 18 = 15 ∨ u % 18 = 16 ∨ u % 18 = 17 := by omega
          rcases hrr with hr | hr | hr | hr | hr | hr | hr | hr | hr | hr | hr | hr | hr | hr | hr | hr | hr | hr
          · have hf : wr.cell? ⟨w.heap.size, 0, none⟩ = some (.string ⟨#[48, 48, 48, 48]⟩) := HFR.out 0 (by decide)
            go_wp2
            go_round
            case rel => exact ⟨i + 1, X ++ (⟨#[48]⟩ : ByteArray), Y ++ (⟨#[48, 48, 48, 48]⟩ : ByteArray), by omega, by go_num, rfl, rfl, by rw [ByteArray.size_append, hX]; rfl, by rw [ByteArray.size_append, hY]; show 4 * i + 4 = _; omega, by rw [app_L X 48 _ rfl, L_append]; exact cat4_snoc 48 [48, 48, 48, 48] HXY.out rfl⟩
            case measure => simp [intOf]; omega
          · have hf : wr.cell? ⟨w.heap.size, 1, none⟩ = some (.string ⟨#[48, 48, 48, 49]⟩) := HFR.out 1 (by decide)
            go_wp2
            go_round
            case rel => exact ⟨i + 1, X ++ (⟨#[49]⟩ : ByteArray), Y ++ (⟨#[48, 48, 48, 49]⟩ : ByteArray), by omega, by go_num, rfl, rfl, by rw [ByteArray.size_append, hX]; rfl, by rw [ByteArray.size_append, hY]; show 4 * i + 4 = _; omega, by rw [app_L X 49 _ rfl, L_append]; exact cat4_snoc 49 [48, 48, 48, 49] HXY.out rfl⟩
            case measure => simp [intOf]; omega
          · have hf : wr.cell? ⟨w.heap.size, 2, none⟩ = some (.string ⟨#[48, 48, 49, 48]⟩) := HFR.out 2 (by decide)
            go_wp2
            go_round
            case rel => exact ⟨i + 1, X ++ (⟨#[50]⟩ : ByteArray), Y ++ (⟨#[48, 48, 49, 48]⟩ : ByteArray), by omega, by go_num, rfl, rfl, by rw [ByteArray.size_append, hX]; rfl, by rw [ByteArray.size_append, hY]; show 4 * i + 4 = _; omega, by rw [app_L X 50 _ rfl, L_append]; exact cat4_snoc 50 [48, 48, 49, 48] HXY.out rfl⟩
            case measure => simp [intOf]; omega
          · have hf : wr.cell? ⟨w.heap.size, 3, none⟩ = some (.string ⟨#[48, 48, 49, 49]⟩) := HFR.out 3 (by decide)
            go_wp2
            go_round
            case rel => exact ⟨i + 1, X ++ (⟨#[51]⟩ : ByteArray), Y ++ (⟨#[48, 48, 49, 49]⟩ : ByteArray), by omega, by go_num, rfl, rfl, by rw [ByteArray.size_append, hX]; rfl, by rw [ByteArray.size_append, hY]; show 4 * i + 4 = _; omega, by rw [app_L X 51 _ rfl, L_append]; exact cat4_snoc 51 [48, 48, 49, 49] HXY.out rfl⟩
            case measure => simp [intOf]; omega
          · have hf : wr.cell? ⟨w.heap.size, 4, none⟩ = some (.string ⟨#[48, 49, 48, 48]⟩) := HFR.out 4 (by decide)
            go_wp2
            go_round
            case rel => exact ⟨i + 1, X ++ (⟨#[52]⟩ : ByteArray), Y ++ (⟨#[48, 49, 48, 48]⟩ : ByteArray), by omega, by go_num, rfl, rfl, by rw [ByteArray.size_append, hX]; rfl, by rw [ByteArray.size_append, hY]; show 4 * i + 4 = _; omega, by rw [app_L X 52 _ rfl, L_append]; exact cat4_snoc 52 [48, 49, 48, 48] HXY.out rfl⟩
            case measure => simp [intOf]; omega
          · have hf : wr.cell? ⟨w.heap.size, 5, none⟩ = some (.string ⟨#[48, 49, 48, 49]⟩) := HFR.out 5 (by decide)
            go_wp2
            go_round
            case rel => exact ⟨i + 1, X ++ (⟨#[53]⟩ : ByteArray), Y ++ (⟨#[48, 49, 48, 49]⟩ : ByteArray), by omega, by go_num, rfl, rfl, by rw [ByteArray.size_append, hX]; rfl, by rw [ByteArray.size_append, hY]; show 4 * i + 4 = _; omega, by rw [app_L X 53 _ rfl, L_append]; exact cat4_snoc 53 [48, 49, 48, 49] HXY.out rfl⟩
            case measure => simp [intOf]; omega
          · have hf : wr.cell? ⟨w.heap.size, 6, none⟩ = some (.string ⟨#[48, 49, 49, 48]⟩) := HFR.out 6 (by decide)
            go_wp2
            go_round
            case rel => exact ⟨i + 1, X ++ (⟨#[54]⟩ : ByteArray), Y ++ (⟨#[48, 49, 49, 48]⟩ : ByteArray), by omega, by go_num, rfl, rfl, by rw [ByteArray.size_append, hX]; rfl, by rw [ByteArray.size_append, hY]; show 4 * i + 4 = _; omega, by rw [app_L X 54 _ rfl, L_append]; exact cat4_snoc 54 [48, 49, 49, 48] HXY.out rfl⟩
            case measure => simp [intOf]; omega
          · have hf : wr.cell? ⟨w.heap.size, 7, none⟩ = some (.string ⟨#[48, 49, 49, 49]⟩) := HFR.out 7 (by decide)
            go_wp2
            go_round
            case rel => exact ⟨i + 1, X ++ (⟨#[55]⟩ : ByteArray), Y ++ (⟨#[48, 49, 49, 49]⟩ : ByteArray), by omega, by go_num, rfl, rfl, by rw [ByteArray.size_append, hX]; rfl, by rw [ByteArray.size_append, hY]; show 4 * i + 4 = _; omega, by rw [app_L X 55 _ rfl, L_append]; exact cat4_snoc 55 [48, 49, 49, 49] HXY.out rfl⟩
            case measure => simp [intOf]; omega
          · have hf : wr.cell? ⟨w.heap.size, 8, none⟩ = some (.string ⟨#[49, 48, 48, 48]⟩) := HFR.out 8 (by decide)
            go_wp2
            go_round
            case rel => exact ⟨i + 1, X ++ (⟨#[56]⟩ : ByteArray), Y ++ (⟨#[49, 48, 48, 48]⟩ : ByteArray), by omega, by go_num, rfl, rfl, by rw [ByteArray.size_append, hX]; rfl, by rw [ByteArray.size_append, hY]; show 4 * i + 4 = _; omega, by rw [app_L X 56 _ rfl, L_append]; exact cat4_snoc 56 [49, 48, 48, 48] HXY.out rfl⟩
            case measure => simp [intOf]; omega
          · have hf : wr.cell? ⟨w.heap.size, 9, none⟩ = some (.string ⟨#[49, 48, 48, 49]⟩) := HFR.out 9 (by decide)
            go_wp2
            go_round
            case rel => exact ⟨i + 1, X ++ (⟨#[57]⟩ : ByteArray), Y ++ (⟨#[49, 48, 48, 49]⟩ : ByteArray), by omega, by go_num, rfl, rfl, by rw [ByteArray.size_append, hX]; rfl, by rw [ByteArray.size_append, hY]; show 4 * i + 4 = _; omega, by rw [app_L X 57 _ rfl, L_append]; exact cat4_snoc 57 [49, 48, 48, 49] HXY.out rfl⟩
            case measure => simp [intOf]; omega
          · have hf : wr.cell? ⟨w.heap.size, 10, none⟩ = some (.string ⟨#[49, 48, 49, 48]⟩) := HFR.out 10 (by decide)
            go_wp2
            go_round
            case rel => exact ⟨i + 1, X ++ (⟨#[97]⟩ : ByteArray), Y ++ (⟨#[49, 48, 49, 48]⟩ : ByteArray), by omega, by go_num, rfl, rfl, by rw [ByteArray.size_append, hX]; rfl, by rw [ByteArray.size_append, hY]; show 4 * i + 4 = _; omega, by rw [app_L X 97 _ rfl, L_append]; exact cat4_snoc 97 [49, 48, 49, 48] HXY.out rfl⟩
            case measure => simp [intOf]; omega
          · have hf : wr.cell? ⟨w.heap.size, 11, none⟩ = some (.string ⟨#[49, 48, 49, 49]⟩) := HFR.out 11 (by decide)
            go_wp2
            go_round
            case rel => exact ⟨i + 1, X ++ (⟨#[98]⟩ : ByteArray), Y ++ (⟨#[49, 48, 49, 49]⟩ : ByteArray), by omega, by go_num, rfl, rfl, by rw [ByteArray.size_append, hX]; rfl, by rw [ByteArray.size_append, hY]; show 4 * i + 4 = _; omega, by rw [app_L X 98 _ rfl, L_append]; exact cat4_snoc 98 [49, 48, 49, 49] HXY.out rfl⟩
            case measure => simp [intOf]; omega
          · have hf : wr.cell? ⟨w.heap.size, 12, none⟩ = some (.string ⟨#[49, 49, 48, 48]⟩) := HFR.out 12 (by decide)
            go_wp2
            go_round
            case rel => exact ⟨i + 1, X ++ (⟨#[99]⟩ : ByteArray), Y ++ (⟨#[49, 49, 48, 48]⟩ : ByteArray), by omega, by go_num, rfl, rfl, by rw [ByteArray.size_append, hX]; rfl, by rw [ByteArray.size_append, hY]; show 4 * i + 4 = _; omega, by rw [app_L X 99 _ rfl, L_append]; exact cat4_snoc 99 [49, 49, 48, 48] HXY.out rfl⟩
            case measure => simp [intOf]; omega
          · have hf : wr.cell? ⟨w.heap.size, 13, none⟩ = some (.string ⟨#[49, 49, 48, 49]⟩) := HFR.out 13 (by decide)
            go_wp2
            go_round
            case rel => exact ⟨i + 1, X ++ (⟨#[100]⟩ : ByteArray), Y ++ (⟨#[49, 49, 48, 49]⟩ : ByteArray), by omega, by go_num, rfl, rfl, by rw [ByteArray.size_append, hX]; rfl, by rw [ByteArray.size_append, hY]; show 4 * i + 4 = _; omega, by rw [app_L X 100 _ rfl, L_append]; exact cat4_snoc 100 [49, 49, 48, 49] HXY.out rfl⟩
            case measure => simp [intOf]; omega
          · have hf : wr.cell? ⟨w.heap.size, 14, none⟩ = some (.string ⟨#[49, 49, 49, 48]⟩) := HFR.out 14 (by decide)
            go_wp2
            go_round
            case rel => exact ⟨i + 1, X ++ (⟨#[101]⟩ : ByteArray), Y ++ (⟨#[49, 49, 49, 48]⟩ : ByteArray), by omega, by go_num, rfl, rfl, by rw [ByteArray.size_append, hX]; rfl, by rw [ByteArray.size_append, hY]; show 4 * i + 4 = _; omega, by rw [app_L X 101 _ rfl, L_append]; exact cat4_snoc 101 [49, 49, 49, 48] HXY.out rfl⟩
            case measure => simp [intOf]; omega
          · have hf : wr.cell? ⟨w.heap.size, 15, none⟩ = some (.string ⟨#[49, 49, 49, 49]⟩) := HFR.out 15 (by decide)
            go_wp2
            go_round
            case rel => exact ⟨i + 1, X ++ (⟨#[102]⟩ : ByteArray), Y ++ (⟨#[49, 49, 49, 49]⟩ : ByteArray), by omega, by go_num, rfl, rfl, by rw [ByteArray.size_append, hX]; rfl, by rw [ByteArray.size_append, hY]; show 4 * i + 4 = _; omega, by rw [app_L X 102 _ rfl, L_append]; exact cat4_snoc 102 [49, 49, 49, 49] HXY.out rfl⟩
            case measure => simp [intOf]; omega
          · have hf : wr.cell? ⟨w.heap.size, 16, none⟩ = some (.string ⟨#[120, 120, 120, 120]⟩) := HFR.out 16 (by decide)
            go_wp2
            go_round
            case rel => exact ⟨i + 1, X ++ (⟨#[120]⟩ : ByteArray), Y ++ (⟨#[120, 120, 120, 120]⟩ : ByteArray), by omega, by go_num, rfl, rfl, by rw [ByteArray.size_append, hX]; rfl, by rw [ByteArray.size_append, hY]; show 4 * i + 4 = _; omega, by rw [app_L X 120 _ rfl, L_append]; exact cat4_snoc 120 [120, 120, 120, 120] HXY.out rfl⟩
            case measure => simp [intOf]; omega
          · have hf : wr.cell? ⟨w.heap.size, 17, none⟩ = some (.string ⟨#[122, 122, 122, 122]⟩) := HFR.out 17 (by decide)
            go_wp2
            go_round
            case rel => exact ⟨i + 1, X ++ (⟨#[122]⟩ : ByteArray), Y ++ (⟨#[122, 122, 122, 122]⟩ : ByteArray), by omega, by go_num, rfl, rfl, by rw [ByteArray.size_append, hX]; rfl, by rw [ByteArray.size_append, hY]; show 4 * i + 4 = _; omega, by rw [app_L X 122 _ rfl, L_append]; exact cat4_snoc 122 [122, 122, 122, 122] HXY.out rfl⟩
            case measure => simp [intOf]; omega
        · have hie : i = len := by omega
          subst hie
          obtain ⟨N1, hN1⟩ : ∃ N1, A ++ (⟨#[39, 104]⟩ : ByteArray) ++ X = N1 := ⟨_, rfl⟩
          obtain ⟨N2, hN2⟩ : ∃ N2, A ++ (⟨#[39, 98]⟩ : ByteArray) ++ Y = N2 := ⟨_, rfl⟩
          have hz1 : (A ++ (⟨#[39, 104]⟩ : ByteArray)).size = A.size + 2 := by rw [ByteArray.size_append]; rfl
          have hz2 : (A ++ (⟨#[39, 98]⟩ : ByteArray)).size = A.size + 2 := by rw [ByteArray.size_append]; rfl
          have hN1s : N1.size ≤ maxLen := by rw [← hN1, ByteArray.size_append, hz1]; unfold maxLen; omega
          have hN2s : N2.size ≤ maxLen := by rw [← hN2, ByteArray.size_append, hz2]; unfold maxLen; omega
          have hXn : L X ≠ [] := by rw [Ne, empty_L]; omega
          obtain ⟨heq, x, hx, hxl⟩ := hex_same (w := 1 + q) (by omega) hXn HXY.out
          have hv1 : numV (L N1) = some (L (S x), false) := by
            rw [← hN1, L_append, L_append, HAD.out, List.append_assoc, L_S]
            refine (numV_sized 104 (L X) (by omega) (by omega)).trans ?_
            show (groV 4 (1 + q) (L X)).map (·, false) = _
            rw [hx]; rfl
          have hv2 : numV (L N2) = some (L (S x), false) := by
            rw [← hN2, L_append, L_append, HAD.out, List.append_assoc, L_S]
            refine (numV_sized 98 (L Y) (by omega) (by omega)).trans ?_
            show (groV 1 (1 + q) (L Y)).map (·, false) = _
            rw [← heq, hx]; rfl
          have hxs : (S x).size = 1 + q := by rw [size_S, hxl]
          obtain ⟨xs, hxe⟩ : ∃ xs, xs = S x := ⟨_, rfl⟩
          rw [← hxe] at hv1 hv2 hxs
          have HN1 := fun w => num_w N1 w hN1s xs false hv1
          have HN2 := fun w => num_w N2 w hN2s xs false hv2
          have run : Below w.heap.size w wr := (HBW.out _).trans (HB.out.mono (by omega))
          clear hv1 hv2 heq hx hxl hxe HXY hXn HAD
          go_wp2_with (first
            | (go_at_call_of 14 (Value.string N1); refine (HN1 _).mono ?_; rintro e w3 ⟨rfl, hb3⟩; replace run := bel run hb3)
            | (go_at_call 14; refine (HN2 _).mono ?_; rintro e w3 ⟨rfl, hb3⟩; replace run := bel run hb3)
            | (go_at_call 13; refine (awake_c m _ ((run.cell (p := ⟨0, 0, none⟩) h0).trans hm) (Nat.lt_of_lt_of_le h0 run.size)).mono ?_; rintro e w3 ⟨rfl, hb3⟩; replace run := bel run hb3))
          go_ret
          exact ⟨rfl, run⟩

set_option maxHeartbeats 2000000 in
theorem hex_no (ao : Option Addr) (len cap : Nat) (wide : Int) (m : Int) (w : World) (hlen : len = 0 ∨ 60 < len) (hbig : len ≤ maxLen) (hm : w.cell? ⟨0, 0, none⟩ = some (.int .i64 m)) (h0 : 0 < w.heap.size) :
    Calls Try.prog 8 #[.slice ao len cap, .int .i64 wide] w fun e w' => e = .returned (.bool true) ∧ Below w.heap.size w w' := by
  unfold maxLen at hbig
  have hbw : ∀ o, Below w.heap.size w (w.alloc o) := fun o => belA (Below.refl _ _) o
  have HBW : Hid _ := hbw
  have hm2 : ∀ o, (w.alloc o).cell? ⟨0, 0, none⟩ = some (.int .i64 m) := fun o => ((hbw o).cell (p := ⟨0, 0, none⟩) h0).trans hm
  have HM2 : Hid _ := hm2
  clear hbw hm2
  rcases hlen with h | h
  · subst h
    go_enter Try.func8, Try.ntmps8
    go_wp2_with (first | (go_at_call 13; refine (awake_c m _ (HM2.out _) (by simp)).mono ?_; rintro e w3 ⟨rfl, hb3⟩))
    go_ret
    exact ⟨rfl, bel (HBW.out _) hb3⟩
  · have hle0 : ((len : Int) == 0) = false := by rw [beq_eq_false_iff_ne]; omega
    go_enter Try.func8, Try.ntmps8
    go_wp2_with (first | (go_at_call 13; refine (awake_c m _ (HM2.out _) (by simp)).mono ?_; rintro e w3 ⟨rfl, hb3⟩))
    go_ret
    exact ⟨rfl, bel (HBW.out _) hb3⟩
end Go.Proofs.Ytjliooccnjcojaa
