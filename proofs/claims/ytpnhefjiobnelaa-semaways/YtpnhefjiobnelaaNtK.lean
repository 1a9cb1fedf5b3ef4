/- Layer 7: an always without a clock must give each target on each way: the law. -/
import Derived.Test.YtpnhefjiobnelaaNtI
import Derived.Test.YtpnhefjiobnelaaNtH
namespace Rp
open Go Lg
theorem rpW_snoc (i : Nat) (x : List UInt8) : rpL i x ++ x = rpL (i + 1) x := by
  induction i with
  | zero => simp [rpL]
  | succ i ih => rw [rpL, List.append_assoc, ih]; rfl
end Rp
namespace Go.Proofs.Ytpnhefjiobnelaa
open Go.RowKit Lg Rp Go.Maps
set_option linter.unusedVariables false
set_option linter.unusedSimpArgs false

theorem i64_andW (n : Int) : bits .and .i64 n 31 = n % 32 := by
  have h31 : (BitVec.ofInt 64 31).toNat = 2 ^ 5 - 1 := by decide
  have key : (BitVec.ofInt 64 n &&& BitVec.ofInt 64 31).toNat = (n % ((2 ^ 64 : Nat) : Int)).toNat % 2 ^ 5 := by
    rw [BitVec.toNat_and, BitVec.toNat_ofInt, h31, Nat.and_two_pow_sub_one_eq_mod]
  show IntKind.i64.wrap ((BitVec.ofInt 64 n &&& BitVec.ofInt 64 31).toNat : Nat) = n % 32
  rw [key, IntKind.wrap_i64]
  omega
theorem i64_and255 (n : Int) : bits .and .i64 n 255 = n % 256 := by
  have h255 : (BitVec.ofInt 64 255).toNat = 2 ^ 8 - 1 := by decide
  have key : (BitVec.ofInt 64 n &&& BitVec.ofInt 64 255).toNat = (n % ((2 ^ 64 : Nat) : Int)).toNat % 2 ^ 8 := by
    rw [BitVec.toNat_and, BitVec.toNat_ofInt, h255, Nat.and_two_pow_sub_one_eq_mod]
  show IntKind.i64.wrap ((BitVec.ofInt 64 n &&& BitVec.ofInt 64 255).toNat : Nat) = n % 256
  rw [key, IntKind.wrap_i64]
  omega
theorem apW {T B : ByteArray} {a b c : List UInt8} (h : T = S a) (hB : L B = b) (hc : a ++ b = c) : T ++ B = S c := by
  apply L_inj
  rw [L_append, h, L_S, L_S, hB, hc]
/-- the text so far, and what is left of it -/
def WyA (n k i : Nat) (T : ByteArray) : Prop := ∃ a, T = S a ∧ a ++ wyT k i = wyS n k
theorem WyA.start {n k : Nat} {T : ByteArray} (h : T = S (wyH ++ rpL n wyI)) : WyA n k n (T ++ ⟨#[121, 32, 61, 32, 49, 59, 32]⟩) := ⟨wyH ++ rpL n wyI ++ wyY, apW (b := wyY) h rfl rfl, by unfold wyS; rfl⟩
theorem WyA.end_ {n k i : Nat} {T : ByteArray} (h : WyA n k (i + 1) T) (hk : i = k) : WyA n k i (T ++ ⟨#[101, 110, 100, 32]⟩) := by
  obtain ⟨a, h1, h2⟩ := h
  refine ⟨a ++ scE, apW h1 rfl rfl, ?_⟩
  rw [← h2, wyT, if_pos hk, List.append_nil, List.append_assoc]
theorem WyA.more {n k i : Nat} {T : ByteArray} (h : WyA n k (i + 1) T) (hk : i ≠ k) : WyA n k i (T ++ ⟨#[101, 110, 100, 32]⟩ ++ ⟨#[101, 108, 115, 101, 32, 121, 32, 61, 32, 48, 59, 32]⟩) := by
  obtain ⟨a, h1, h2⟩ := h
  refine ⟨a ++ scE ++ wyL, apW (apW (b := scE) h1 rfl rfl) rfl rfl, ?_⟩
  rw [← h2, wyT, if_neg hk]
  simp only [List.append_assoc]
set_option maxHeartbeats 8000000 in
set_option maxRecDepth 100000 in
theorem SemaWays_c (many lacks : Int) (w : World) (ha : -9223372036854775808 ≤ many ∧ many ≤ 9223372036854775807) (hb : -9223372036854775808 ≤ lacks ∧ lacks ≤ 9223372036854775807) : Calls Try.prog 4 #[.int .i64 many, .int .i64 lacks] w fun e w' => e = .returned (.bool true) ∧ Below w.heap.size w w' := by
  clear ha hb
  obtain ⟨p, hp⟩ : ∃ p : Nat, bits .and .i64 many 31 = (p : Int) ∧ p < 32 := ⟨(many % 32).toNat, by rw [i64_andW]; omega, by omega⟩
  obtain ⟨hp, hp2⟩ := hp
  obtain ⟨q, hq⟩ : ∃ q : Nat, bits .and .i64 lacks 255 = (q : Int) ∧ q < 256 := ⟨(lacks % 256).toNat, by rw [i64_and255]; omega, by omega⟩
  obtain ⟨hq, hq2⟩ := hq
  obtain ⟨m, hm⟩ : ∃ m : Nat, m = p % 14 := ⟨_, rfl⟩
  obtain ⟨n, hn⟩ : ∃ n : Nat, n = 1 + m := ⟨_, rfl⟩
  obtain ⟨n1, hn1⟩ : ∃ n1 : Nat, n1 = n + 1 := ⟨_, rfl⟩
  obtain ⟨k, hk⟩ : ∃ k : Nat, k = q % n1 := ⟨_, rfl⟩
  have hm14 : m < 14 := by omega
  have hn14 : 1 ≤ n ∧ n ≤ 14 := by omega
  have hkn : k ≤ n := by have := Nat.mod_lt q (show 0 < n1 by omega); omega
  have hrem : Int.tmod (p : Int) 14 = (m : Int) := by rw [hm, Int.tmod_eq_emod_of_nonneg (by omega)]; omega
  have hadd : IntKind.i64.wrap (1 + (m : Int)) = (n : Int) := by rw [IntKind.wrap_i64]; omega
  have hadd1 : IntKind.i64.wrap ((n : Int) + 1) = (n1 : Int) := by rw [IntKind.wrap_i64]; omega
  have hrem2 : Int.tmod (q : Int) (n1 : Int) = (k : Int) := by rw [hk, Int.tmod_eq_emod_of_nonneg (by omega)]; omega
  have hn10 : ((n1 : Int) == 0) = false := by simp; omega
  have hn11 : (n1 : Int) ≠ 0 := by omega
  have hsub0 : ∃ n0 : Nat, n = n0 + 1 ∧ IntKind.i64.wrap ((n : Int) - 1) = (n0 : Int) := ⟨m, by omega, by rw [IntKind.wrap_i64]; omega⟩
  obtain ⟨n0, hn0, hsub⟩ := hsub0
  have HN0 : Hid (n = n0 + 1) := hn0
  have hw1 : ∀ i : Nat, i ≤ 100000 → IntKind.i64.wrap ((i : Int) + 1) = ((i + 1 : Nat) : Int) := fun i hi => by rw [IntKind.wrap_i64]; omega
  have HAW := fun w => awake7 w
  have HO1 : Hid (∀ U : ByteArray, U = S (wyS n k) → ∀ w, Calls Try.prog 6 #[.string (U ++ ⟨#[101, 110, 100, 109, 111, 100, 117, 108, 101]⟩)] w fun e w' => ∃ g cp, e = .returned (.slice (some ⟨g, 0, none⟩) 1 cp) ∧ Below w.heap.size w w' ∧ Hid (Calls Try.prog 5 #[.slice (some ⟨g, 0, none⟩) 1 cp] w' fun e w'' => CkP (wyW n k) w' e w'')) := fun U hU w => cOf (AL := alM 300) (fun _ _ => sAlways) (F := 300) (by rw [L_append, hU, L_S]; exact wyNk hn14.1 hn14.2 hkn) w
  obtain ⟨hnl, hnh⟩ := hn14
  have hnI : (n : Int) ≤ 14 := by omega
  have HKN : Hid (k ≤ n) := hkn
  clear hm hn hn1 hk hm14 hn0
  go_enter Try.func4, Try.ntmps4
  go_wp2
  clear hp hq hrem hadd hadd1 hrem2 hn10 hn11 hp2 hq2
  go_loopw [7, 8] (fun s v wr => ∃ (i : Nat) (T : ByteArray), i ≤ n ∧ T.size ≤ 45 + 13 * i ∧ s = .string T ∧ v = .int .i64 i ∧ Hid (T = S (wyH ++ rpL i wyI)) ∧ Hid (wr = w)) (fun _ v _ => n - (intOf v).toNat)
  case atStart => exact ⟨0, _, Nat.zero_le _, (by decide), rfl, rfl, rfl, rfl⟩
  case round =>
    obtain ⟨i, T, hi, hT, rfl, rfl, HT, HW⟩ := hrel
    have hwr := HW.out
    subst hwr
    clear HW
    by_cases hlt : i < n
    · have hltI : (i : Int) < (n : Int) := by omega
      have hww := hw1 i (by omega)
      have hsz : T.size + 13 ≤ maxLen := by unfold maxLen; omega
      go_wp2
      go_roundw
      case rel =>
        refine ⟨i + 1, _, by omega, ?_, rfl, by go_num, apW (b := wyI) HT.out rfl (by rw [List.append_assoc, rpW_snoc]), trivial⟩
        rw [ByteArray.size_append]
        show T.size + 13 ≤ _
        omega
      case measure => simp [intOf]; omega
    · have hnlt : ¬ ((i : Int) < (n : Int)) := by omega
      have HT1 : Hid (T = S (wyH ++ rpL n wyI)) := by have e : i = n := by omega
                                                      rw [← e]; exact HT.out
      have hsz : T.size + 7 ≤ maxLen := by unfold maxLen; omega
      have hTn : T.size ≤ 45 + 13 * 14 := by omega
      clear HT hT
      go_wp2
      go_loopw [7, 9] (fun s v w2 => ∃ U : ByteArray, s = .string U ∧ Hid (w2 = wr) ∧ ((∃ r : Nat, r < n ∧ v = .int .i64 r ∧ U.size + 16 * (r + 1) ≤ 600 ∧ Hid (WyA n k (r + 1) U)) ∨ (v = .int .i64 (-1) ∧ U.size ≤ 600 ∧ Hid (WyA n k 0 U)))) (fun _ v _ => (intOf v + 1).toNat)
      case atStart =>
        have e0 := HN0.out
        have h1 := WyA.start (k := k) HT1.out
        have h2 : (T ++ ⟨#[121, 32, 61, 32, 49, 59, 32]⟩ : ByteArray).size = T.size + 7 := by rw [ByteArray.size_append]; rfl
        have h3 : WyA n k (n0 + 1) (T ++ ⟨#[121, 32, 61, 32, 49, 59, 32]⟩) := by rw [← e0]; exact h1
        exact ⟨_, rfl, rfl, Or.inl ⟨n0, by omega, rfl, by omega, h3⟩⟩
      case round =>
        obtain ⟨U, rfl, HW, hrel⟩ := hrel
        have hwr := HW.out
        subst hwr
        clear HW
        rcases hrel with ⟨r, hr, rfl, hU, HWY⟩ | ⟨rfl, hU, HWY⟩
        · have hsz1 : U.size + 4 ≤ maxLen := by unfold maxLen; omega
          have hrI : (r : Int) ≤ 14 := by omega
          by_cases hrk : r = k
          · have HA : Hid (WyA n k r (U ++ ⟨#[101, 110, 100, 32]⟩)) := HWY.out.end_ hrk
            subst hrk
            have hss : (U ++ ⟨#[101, 110, 100, 32]⟩ : ByteArray).size ≤ U.size + 16 := by rw [ByteArray.size_append]; show U.size + 4 ≤ _; omega
            by_cases hr0 : r = 0
            · have HR0 : Hid (r = 0) := hr0
              have HA0 : Hid (WyA n r 0 (U ++ ⟨#[101, 110, 100, 32]⟩)) := by have h := HA.out; exact hr0 ▸ h
              clear hr0
              go_wp2
              go_roundw
              case rel => exact ⟨_, rfl, trivial, Or.inr ⟨by rw [show (r : Int) - 1 = -1 by have := HR0.out; omega], by omega, HA0⟩⟩
              case measure => first | (simp [intOf]; done) | (simp [intOf]; omega)
            · obtain ⟨r2, hr2⟩ : ∃ r2 : Nat, r = r2 + 1 := ⟨r - 1, by omega⟩
              have HR2 : Hid (r = r2 + 1) := hr2
              have HA0 : Hid (WyA n r (r2 + 1) (U ++ ⟨#[101, 110, 100, 32]⟩)) := by have h := HA.out; exact hr2 ▸ h
              have hr2n : r2 < n := by omega
              have hU2 : U.size + 16 + 16 * (r2 + 1) ≤ 600 := by omega
              clear hr0 hr2
              go_wp2
              go_roundw
              case rel => exact ⟨_, rfl, trivial, Or.inl ⟨r2, hr2n, by rw [show (r : Int) - 1 = (r2 : Int) by have := HR2.out; omega], by omega, HA0⟩⟩
              case measure => first | (simp [intOf]; done) | (simp [intOf]; omega)
          · have HA : Hid (WyA n k r (U ++ ⟨#[101, 110, 100, 32]⟩ ++ ⟨#[101, 108, 115, 101, 32, 121, 32, 61, 32, 48, 59, 32]⟩)) := HWY.out.more hrk
            have hrkI : ((r : Int) == (k : Int)) = false := by simp; omega
            clear hrk
            have hss : (U ++ ⟨#[101, 110, 100, 32]⟩ ++ ⟨#[101, 108, 115, 101, 32, 121, 32, 61, 32, 48, 59, 32]⟩ : ByteArray).size ≤ U.size + 16 := by rw [ByteArray.size_append, ByteArray.size_append]; show U.size + 4 + 12 ≤ _; omega
            have HSS : Hid ((U ++ ⟨#[101, 110, 100, 32]⟩ ++ ⟨#[101, 108, 115, 101, 32, 121, 32, 61, 32, 48, 59, 32]⟩ : ByteArray).size ≤ U.size + 16) := hss
            clear hss
            have hsz2 : U.size + 4 + 12 ≤ maxLen := by unfold maxLen; omega
            have hUN : U.size ≤ 584 := by omega
            have HUU : Hid (U.size + 16 * (r + 1) ≤ 600) := hU
            have HRN : Hid (r < n) := hr
            clear hU hlt hi hkn hsub hw1 hnl hnh hTn hsz hnlt
            by_cases hr0 : r = 0
            · have HR0 : Hid (r = 0) := hr0
              have HA0 : Hid (WyA n k 0 (U ++ ⟨#[101, 110, 100, 32]⟩ ++ ⟨#[101, 108, 115, 101, 32, 121, 32, 61, 32, 48, 59, 32]⟩)) := by have h := HA.out; rw [hr0] at h; exact h
              clear hr0
              go_wp2
              go_roundw
              case rel => exact ⟨_, rfl, trivial, Or.inr ⟨by rw [show (r : Int) - 1 = -1 by have := HR0.out; omega], by have := HSS.out; omega, HA0⟩⟩
              case measure => first | (simp [intOf]; done) | (simp [intOf]; omega)
            · obtain ⟨r2, hr2⟩ : ∃ r2 : Nat, r = r2 + 1 := ⟨r - 1, by omega⟩
              have HR2 : Hid (r = r2 + 1) := hr2
              have HA0 : Hid (WyA n k (r2 + 1) (U ++ ⟨#[101, 110, 100, 32]⟩ ++ ⟨#[101, 108, 115, 101, 32, 121, 32, 61, 32, 48, 59, 32]⟩)) := by have h := HA.out; rw [hr2] at h; exact h
              have hr2n : Hid (r2 < n) := by have := HRN.out; show r2 < n; omega
              have HU2 : Hid (U.size + 16 + 16 * (r2 + 1) ≤ 600) := by have := HUU.out; show U.size + 16 + 16 * (r2 + 1) ≤ 600; omega
              clear hr0 hr2
              go_wp2
              go_roundw
              case rel => exact ⟨_, rfl, trivial, Or.inl ⟨r2, hr2n.out, by rw [show (r : Int) - 1 = (r2 : Int) by have := HR2.out; omega], by have := HSS.out; have := HU2.out; omega, HA0⟩⟩
              case measure => first | (simp [intOf]; done) | (simp [intOf]; omega)
        · have HUS : Hid (U = S (wyS n k)) := by
            obtain ⟨a, h1, h2⟩ := HWY.out
            rw [wyT, List.append_nil] at h2
            show U = _
            rw [h1, h2]
          have hsz1 : U.size + 9 ≤ maxLen := by unfold maxLen; omega
          have K1 := HO1.out U HUS.out
          by_cases hlt2 : k < n
          · have hlt2I : (k : Int) < (n : Int) := by omega
            unfold wyW at K1
            rw [if_pos hlt2] at K1
            go_wp2_with (first
              | (go_at_call 6; refine (K1 _).mono ?_; rintro e w1 ⟨g1, cp1, rfl, hb1, HC1⟩)
              | (go_at_call 5; refine HC1.out.mono ?_; rintro e w2 ⟨gd2, rfl, c20, c21, dl2, hb2⟩)
              | (go_at_call 7; refine (HAW _).mono ?_; rintro e w5 ⟨rfl, hb5⟩))
            go_ret
            exact ⟨rfl, bel (bel hb1 hb2) hb5⟩
          · have hlt2I : ¬ ((k : Int) < (n : Int)) := by omega
            unfold wyW at K1
            rw [if_neg hlt2] at K1
            go_wp2_with (first
              | (go_at_call 6; refine (K1 _).mono ?_; rintro e w1 ⟨g1, cp1, rfl, hb1, HC1⟩)
              | (go_at_call 5; refine HC1.out.mono ?_; rintro e w2 ⟨rfl, hb2⟩)
              | (go_at_call 7; refine (HAW _).mono ?_; rintro e w5 ⟨rfl, hb5⟩))
            go_ret
            exact ⟨rfl, bel (bel hb1 hb2) hb5⟩
end Go.Proofs.Ytpnhefjiobnelaa
