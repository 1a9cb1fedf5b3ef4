/- Layer 2: a number that is written bit by bit is that vector. -/
import Derived.Test.YtjliooccnjcojaaXL
import Derived.Test.YtjliooccnjcojaaMathQ
namespace Go.Proofs.Ytjliooccnjcojaa
open Go.RowKit Lg
set_option linter.unusedVariables false
set_option linter.unusedSimpArgs false

theorem i64_maskAny (n : Int) (W : Nat) (hW : W < 63) : bits .and .i64 n ((2 ^ W - 1 : Nat) : Int) = n % ((2 ^ W : Nat) : Int) := by
  have hpos : 0 < 2 ^ W := Nat.two_pow_pos W
  have hlt : 2 ^ W < 2 ^ 63 := Nat.pow_lt_pow_right (by omega) hW
  have h1 : (BitVec.ofInt 64 ((2 ^ W - 1 : Nat) : Int)).toNat = 2 ^ W - 1 := by
    rw [BitVec.toNat_ofInt]; omega
  have key : (BitVec.ofInt 64 n &&& BitVec.ofInt 64 ((2 ^ W - 1 : Nat) : Int)).toNat = (n % ((2 ^ 64 : Nat) : Int)).toNat % 2 ^ W := by
    rw [BitVec.toNat_and, BitVec.toNat_ofInt, h1, Nat.and_two_pow_sub_one_eq_mod]
  show IntKind.i64.wrap ((BitVec.ofInt 64 n &&& BitVec.ofInt 64 ((2 ^ W - 1 : Nat) : Int)).toNat : Nat) = n % ((2 ^ W : Nat) : Int)
  rw [key, IntKind.wrap_i64]
  have h2 : ((n % ((2 ^ 64 : Nat) : Int)).toNat % 2 ^ W : Nat) = n % ((2 ^ W : Nat) : Int) := by
    rw [Int.natCast_emod, Int.toNat_of_nonneg (Int.emod_nonneg _ (by decide)), Int.emod_emod_of_dvd]
    exact Int.natCast_dvd_natCast.2 (Nat.pow_dvd_pow 2 (by omega))
  have h3 : 0 ≤ n % ((2 ^ W : Nat) : Int) := Int.emod_nonneg _ (by omega)
  have h4 : n % ((2 ^ W : Nat) : Int) < ((2 ^ W : Nat) : Int) := Int.emod_lt_of_pos _ (by omega)
  rw [h2]; omega
def szV : Value → Nat
  | .string s => s.size
  | _ => 0
theorem dec_step {k r : Nat} {A : ByteArray} {X : List UInt8} (hk : 0 < k) (hr : k % 10 = r) (c : UInt8) (hc : UInt8.ofNat (48 + r) = c) (h : decF k ++ L A = X) : decF (k / 10) ++ L ((⟨#[c]⟩ : ByteArray) ++ A) = X := by
  rw [L_append, ← h, decF_pos (by omega : k ≠ 0), hr, hc, List.append_assoc]; rfl
theorem one_sz (c : UInt8) (A : ByteArray) : ((⟨#[c]⟩ : ByteArray) ++ A).size = 1 + A.size := by rw [ByteArray.size_append]; rfl
theorem dec2_ne (n : Nat) : dec2 n ≠ [] := by
  unfold dec2; split
  · simp
  · rename_i h; exact decF_ne h
theorem dec2_len (n : Nat) (h : n ≤ 2147483647) : (dec2 n).length ≤ 10 := by
  have step : ∀ d n, n < 10 ^ d → (decF n).length ≤ d := by
    intro d
    induction d with
    | zero => intro n h; have : n = 0 := by simpa using h
              subst this; rw [decF_zero]; simp
    | succ d ih =>
      intro n h
      by_cases h0 : n = 0
      · subst h0; rw [decF_zero]; simp
      · rw [decF_pos h0, List.length_append]
        have := ih (n / 10) (by rw [Nat.pow_succ] at h; omega)
        simp; omega
  unfold dec2; split
  · simp
  · exact step 10 n (by omega)
/-- the second loop's state: nothing yet, or so many digits -/
def St2 (q k : Nat) (T : ByteArray) : Prop := (k = 0 ∧ L T = [] ∧ q = 0) ∨ decF k ++ L T = dec2 q
theorem st2_end {q : Nat} {T : ByteArray} (h : St2 q 0 T) (hT : T.size ≠ 0) : L T = dec2 q := by
  rcases h with ⟨_, h, _⟩ | h
  · exact absurd ((empty_L T).1 h) hT
  · rw [decF_zero] at h; exact h
theorem st2_first {q : Nat} {T : ByteArray} (h : St2 q 0 T) (hT : T.size = 0) : q = 0 := by
  rcases h with ⟨_, _, h⟩ | h
  · exact h
  · rw [decF_zero, (empty_L T).2 hT] at h; exact absurd h.symm (dec2_ne q)
theorem st2_pos {q k : Nat} {T : ByteArray} (h : St2 q k T) (hk : 0 < k) : decF k ++ L T = dec2 q := by
  rcases h with ⟨h, _⟩ | h
  · omega
  · exact h
theorem st2_len {q k : Nat} {T : ByteArray} (h : St2 q k T) (hq : q ≤ 2147483647) : T.size ≤ 10 := by
  rcases h with ⟨_, h, _⟩ | h
  · have := (empty_L T).1 h; omega
  · have := congrArg List.length h
    have h2 := dec2_len q hq
    rw [List.length_append, len_L] at this; omega
theorem num_w (s : ByteArray) (w : World) (hs : s.size ≤ maxLen) (x : ByteArray) (b : Bool) (h : numV (L s) = some (L x, b)) : Calls Try.prog 14 #[.string s] w fun e w' => e = .returned (.tuple #[.string x, .bool b, .int .i64 0]) ∧ Below w.heap.size w w' := by
  refine (Number_c s w hs).mono ?_
  rintro e w' ⟨rfl, hb⟩
  obtain ⟨h1, h2, h3⟩ := num_some h
  exact ⟨by rw [h1, h2, h3, S_L], hb⟩

set_option maxRecDepth 100000 in
set_option maxHeartbeats 8000000 in
theorem bits_yes (v : ByteArray) (n wide : Int) (m : Int) (w : World) (hvec : vec (L v) = true) (hm : w.cell? ⟨0, 0, none⟩ = some (.int .i64 m)) (h0 : 0 < w.heap.size) :
    Calls Try.prog 7 #[.string v, .int .i64 n, .int .i64 wide] w fun e w' => e = .returned (.bool true) ∧ Below w.heap.size w w' := by
  have hl := vec_len hvec
  rw [len_L] at hl
  obtain ⟨l1, l2⟩ := hl
  have hvm : v.size ≤ maxLen := by unfold maxLen; omega
  obtain ⟨q, hq, hq2⟩ : ∃ q : Nat, bits .and .i64 n 2147483647 = (q : Int) ∧ q ≤ 2147483647 := by
    have := i64_maskAny n 31 (by decide)
    have h3 : 0 ≤ n % ((2 ^ 31 : Nat) : Int) := Int.emod_nonneg _ (by decide)
    have h4 : n % ((2 ^ 31 : Nat) : Int) < ((2 ^ 31 : Nat) : Int) := Int.emod_lt_of_pos _ (by decide)
    obtain ⟨q, hq⟩ := Int.eq_ofNat_of_zero_le h3
    exact ⟨q, this.trans hq, by rw [hq] at h4; have : ((2 ^ 31 : Nat) : Int) = 2147483648 := by decide
                                omega⟩
  have hbw : ∀ o, Below w.heap.size w (w.alloc o) := fun o => belA (Below.refl _ _) o
  have HBW : Hid _ := hbw
  clear hbw
  go_enter Try.func7, Try.ntmps7
  go_wp2_with (first | (go_at_call 16; refine (may_c v _ hvm).mono ?_; rintro e w1 ⟨rfl, hw1⟩; have hw2 := hw1.symm; subst hw2; rw [hvec]))
  go_loop [8, 9, 10] (fun sv kv dv => ∃ (k : Nat) (A : ByteArray), k ≤ 256 ∧ kv = .int .i64 k ∧ sv = .string A ∧ A.size ≤ 256 - k ∧ Hid (decF k ++ L A = decF v.size)) (fun _ kv _ => (intOf kv).toNat)
  case atStart => exact ⟨v.size, ⟨#[]⟩, l2, rfl, rfl, Nat.zero_le _, by show Hid (decF v.size ++ [] = decF v.size); rw [List.append_nil]; exact rfl⟩
  case round =>
    obtain ⟨k, A, hk, rfl, rfl, hA, HD⟩ := hrel
    by_cases hk0 : 0 < k
    · have hrr : k % 10 = 0 ∨ k % 10 = 1 ∨ k % 10 = 2 ∨ k % 10 = 3 ∨ k % 10 = 4 ∨ k % 10 = 5 ∨ k % 10 = 6 ∨ k % 10 = 7 ∨ k % 10 = 8 ∨ k % 10 = 9 := by omega
      rcases hrr with hr | hr | hr | hr | hr | hr | hr | hr | hr | hr
      · go_wp2
        go_round
        case rel => exact ⟨k / 10, (⟨#[48]⟩ : ByteArray) ++ A, by omega, by go_num, rfl, by rw [one_sz]; omega, dec_step hk0 hr 48 rfl HD.out⟩
        case measure => simp [intOf]; omega
      · go_wp2
        go_round
        case rel => exact ⟨k / 10, (⟨#[49]⟩ : ByteArray) ++ A, by omega, by go_num, rfl, by rw [one_sz]; omega, dec_step hk0 hr 49 rfl HD.out⟩
        case measure => simp [intOf]; omega
      · go_wp2
        go_round
        case rel => exact ⟨k / 10, (⟨#[50]⟩ : ByteArray) ++ A, by omega, by go_num, rfl, by rw [one_sz]; omega, dec_step hk0 hr 50 rfl HD.out⟩
        case measure => simp [intOf]; omega
      · go_wp2
        go_round
        case rel => exact ⟨k / 10, (⟨#[51]⟩ : ByteArray) ++ A, by omega, by go_num, rfl, by rw [one_sz]; omega, dec_step hk0 hr 51 rfl HD.out⟩
        case measure => simp [intOf]; omega
      · go_wp2
        go_round
        case rel => exact ⟨k / 10, (⟨#[52]⟩ : ByteArray) ++ A, by omega, by go_num, rfl, by rw [one_sz]; omega, dec_step hk0 hr 52 rfl HD.out⟩
        case measure => simp [intOf]; omega
      · go_wp2
        go_round
        case rel => exact ⟨k / 10, (⟨#[53]⟩ : ByteArray) ++ A, by omega, by go_num, rfl, by rw [one_sz]; omega, dec_step hk0 hr 53 rfl HD.out⟩
        case measure => simp [intOf]; omega
      · go_wp2
        go_round
        case rel => exact ⟨k / 10, (⟨#[54]⟩ : ByteArray) ++ A, by omega, by go_num, rfl, by rw [one_sz]; omega, dec_step hk0 hr 54 rfl HD.out⟩
        case measure => simp [intOf]; omega
      · go_wp2
        go_round
        case rel => exact ⟨k / 10, (⟨#[55]⟩ : ByteArray) ++ A, by omega, by go_num, rfl, by rw [one_sz]; omega, dec_step hk0 hr 55 rfl HD.out⟩
        case measure => simp [intOf]; omega
      · go_wp2
        go_round
        case rel => exact ⟨k / 10, (⟨#[56]⟩ : ByteArray) ++ A, by omega, by go_num, rfl, by rw [one_sz]; omega, dec_step hk0 hr 56 rfl HD.out⟩
        case measure => simp [intOf]; omega
      · go_wp2
        go_round
        case rel => exact ⟨k / 10, (⟨#[57]⟩ : ByteArray) ++ A, by omega, by go_num, rfl, by rw [one_sz]; omega, dec_step hk0 hr 57 rfl HD.out⟩
        case measure => simp [intOf]; omega
    · have hk1 : k = 0 := by omega
      subst hk1
      have hAd : L A = decF v.size := by have := HD.out; rw [decF_zero] at this; exact this
      obtain ⟨N1, hN1⟩ : ∃ N1, A ++ (⟨#[39, 98]⟩ : ByteArray) ++ v = N1 := ⟨_, rfl⟩
      have hz1 : (A ++ (⟨#[39, 98]⟩ : ByteArray)).size = A.size + 2 := by rw [ByteArray.size_append]; rfl
      have hN1s : N1.size ≤ maxLen := by rw [← hN1, ByteArray.size_append, hz1]; unfold maxLen; omega
      have hnv : numV (L N1) = some (L v, false) := by
        rw [← hN1, L_append, L_append, hAd, ← len_L v, List.append_assoc]; exact numV_bits hvec
      have HN1 := fun w => num_w N1 w hN1s v false hnv
      clear hnv hAd HD
      go_wp2_with (first | (go_at_call 14; refine (HN1 _).mono ?_; rintro e w2 ⟨rfl, hb2⟩))
      go_loopw [15, 16] (fun tv kv wr => ∃ (k : Nat) (T : ByteArray), k ≤ 2147483647 ∧ kv = .int .i64 k ∧ tv = .string T ∧ T.size ≤ 10 ∧ Hid (St2 q k T) ∧ Hid (Below w.heap.size w wr)) (fun tv kv _ => 2 * (intOf kv).toNat + (1 - szV tv))
      case atStart =>
        refine ⟨q, ⟨#[]⟩, hq2, rfl, rfl, by decide, ?_, bel (HBW.out _) hb2⟩
        by_cases hq0 : q = 0
        · subst hq0; exact Or.inl ⟨rfl, rfl, rfl⟩
        · refine Or.inr ?_
          show decF q ++ [] = dec2 q
          unfold dec2; rw [if_neg hq0, List.append_nil]
      case round =>
        obtain ⟨k, T, hk, rfl, rfl, hT, HS, HB⟩ := hrel
        by_cases hk0 : 0 < k
        · have hnew := st2_pos HS.out hk0
          have HNW : Hid _ := hnew
          clear hnew
          obtain ⟨c, hc⟩ : ∃ c, UInt8.ofNat (48 + k % 10) = c := ⟨_, rfl⟩
          have h1 : (convert 39 9 (.slice (some ⟨wr.heap.size, 0, none⟩) 1 1)).run Try.prog (wr.alloc (.cells #[.int .u8 (48 + (k : Int) % 10)] 5)) = .ok (.string ⟨#[c]⟩) (wr.alloc (.cells #[.int .u8 (48 + (k : Int) % 10)] 5)) := by
            have := one_c c wr
            rw [← hc, dig_nat _ (by omega)] at this
            rw [← hc]
            have e : ((48 + k % 10 : Nat) : Int) = 48 + (k : Int) % 10 := by omega
            rw [e] at this
            exact this
          have HC : Hid (UInt8.ofNat (48 + k % 10) = c) := hc
          clear hc
          go_wp2
          go_roundw
          case rel => exact ⟨k / 10, (⟨#[c]⟩ : ByteArray) ++ T, by omega, by go_num, rfl, st2_len (Or.inr (dec_step hk0 rfl c HC.out HNW.out)) hq2, Or.inr (dec_step hk0 rfl c HC.out HNW.out), HB.out.alloc HB.out.size _⟩
          case measure => simp [intOf]; omega
        · have hk1 : k = 0 := by omega
          subst hk1
          by_cases hT0 : T.size = 0
          · have hq0 := st2_first HS.out hT0
            have hTe : T = ⟨#[]⟩ := by apply L_inj; rw [(empty_L T).2 hT0]; rfl
            subst hTe
            have h1 : (convert 39 9 (.slice (some ⟨wr.heap.size, 0, none⟩) 1 1)).run Try.prog (wr.alloc (.cells #[.int .u8 48] 5)) = .ok (.string ⟨#[48]⟩) (wr.alloc (.cells #[.int .u8 48] 5)) := one_c 48 wr
            have HQ : Hid (q = 0) := hq0
            clear hq0
            go_wp2
            go_roundw
            case rel => exact ⟨0, ⟨#[48]⟩, by omega, rfl, rfl, by decide, Or.inr (by rw [decF_zero, HQ.out]; rfl), HB.out.alloc HB.out.size _⟩
            case measure => simp [intOf, szV]; decide
          · have hTd := st2_end HS.out hT0
            have hTn : T.toList.isEmpty = false := by rw [toL, List.isEmpty_eq_false_iff, Ne, empty_L]; exact hT0
            obtain ⟨N2, hN2⟩ : ∃ N2, (⟨#[51, 49, 39, 100]⟩ : ByteArray) ++ T = N2 := ⟨_, rfl⟩
            have hN2s : N2.size ≤ maxLen := by rw [← hN2, ByteArray.size_append, show (⟨#[51, 49, 39, 100]⟩ : ByteArray).size = 4 from rfl]; unfold maxLen; omega
            have hTs : T.size ≤ maxLen := by unfold maxLen; omega
            have hm1 := (HB.out.cell (p := ⟨0, 0, none⟩) h0).trans hm
            have HA := fun w => num_w T w hTs (S (ofL q 32)) true (by rw [hTd, L_S]; exact numV_plain hq2)
            have HC := fun w => num_w N2 w hN2s (S (ofL q 31)) false (by rw [← hN2, L_append, hTd, L_S]; exact numV_31 hq2)
            clear hTd HS
            have run := HB.out
            go_wp2_with (first
              | (go_at_call_of 14 (Value.string T); refine (HA _).mono ?_; rintro e w3 ⟨rfl, hb3⟩; replace run := bel run hb3)
              | (go_at_call 14; refine (HC _).mono ?_; rintro e w3 ⟨rfl, hb3⟩; replace run := bel run hb3)
              | (go_at_call_of 17 (Value.int .i64 32); refine (rOf_c q 32 _ (by omega) (by omega) (by omega)).mono ?_; rintro e w3 ⟨rfl, hb3⟩; replace run := bel run hb3)
              | (go_at_call 17; refine (rOf_c q 31 _ (by omega) (by omega) (by omega)).mono ?_; rintro e w3 ⟨rfl, hb3⟩; replace run := bel run hb3)
              | (go_at_call 13; refine (awake_c m _ ((run.cell (p := ⟨0, 0, none⟩) h0).trans hm) (Nat.lt_of_lt_of_le h0 run.size)).mono ?_; rintro e w3 ⟨rfl, hb3⟩; replace run := bel run hb3))
            go_ret
            exact ⟨rfl, run⟩

set_option maxHeartbeats 2000000 in
theorem LexerBits_c (v : ByteArray) (n wide : Int) (m : Int) (w : World) (hv : v.size ≤ maxLen) (hn : -2^63 ≤ n ∧ n ≤ 2^63-1) (hw : -2^63 ≤ wide ∧ wide ≤ 2^63-1) (hm : w.cell? ⟨0, 0, none⟩ = some (.int .i64 m)) (h0 : 0 < w.heap.size) :
    Calls Try.prog 7 #[.string v, .int .i64 n, .int .i64 wide] w fun e w' => e = .returned (.bool true) ∧ Below w.heap.size w w' := by
  cases hvec : vec (L v) with
  | true => exact bits_yes v n wide m w hvec hm h0
  | false =>
    go_enter Try.func7, Try.ntmps7
    go_wp2_with (first
      | (go_at_call 16; refine (may_c v _ hv).mono ?_; rintro e w1 ⟨rfl, hw1⟩; have hw2 := hw1.symm; subst hw2; rw [hvec])
      | (go_at_call 13; refine (awake_c m _ hm h0).mono ?_; rintro e w3 ⟨rfl, hb3⟩))
    go_ret
    exact ⟨rfl, hb3⟩
end Go.Proofs.Ytjliooccnjcojaa
