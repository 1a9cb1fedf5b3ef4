/- Layer 7: a name of a for hides the same name around it: the law. -/
import Derived.Test.YtpnhefjiobnelaaNtI
import Derived.Test.YtpnhefjiobnelaaNsR
import Derived.Test.YtpnhefjiobnelaaNsS
namespace Rp
open Go Lg
theorem rpL_snoc (i : Nat) (x : List UInt8) : rpL i x ++ x = rpL (i + 1) x := by
  induction i with
  | zero => simp [rpL]
  | succ i ih => rw [rpL, List.append_assoc, ih]; rfl
theorem rpL_len (i : Nat) (x : List UInt8) : (rpL i x).length = i * x.length := by
  induction i with
  | zero => simp [rpL]
  | succ i ih => rw [rpL, List.length_append, ih, Nat.succ_mul]; omega
end Rp
namespace Go.Proofs.Ytpnhefjiobnelaa
open Go.RowKit Lg Rp Go.Maps
set_option linter.unusedVariables false
set_option linter.unusedSimpArgs false

theorem i64_and31 (n : Int) : bits .and .i64 n 31 = n % 32 := by
  have h31 : (BitVec.ofInt 64 31).toNat = 2 ^ 5 - 1 := by decide
  have key : (BitVec.ofInt 64 n &&& BitVec.ofInt 64 31).toNat = (n % ((2 ^ 64 : Nat) : Int)).toNat % 2 ^ 5 := by
    rw [BitVec.toNat_and, BitVec.toNat_ofInt, h31, Nat.and_two_pow_sub_one_eq_mod]
  show IntKind.i64.wrap ((BitVec.ofInt 64 n &&& BitVec.ofInt 64 31).toNat : Nat) = n % 32
  rw [key, IntKind.wrap_i64]
  omega
theorem apS {T B : ByteArray} {a b c : List UInt8} (h : T = S a) (hB : L B = b) (hc : a ++ b = c) : T ++ B = S c := by
  apply L_inj
  rw [L_append, h, L_S, L_S, hB, hc]
theorem alN_c (cb mb : Nat) : AlC alN cb mb := by
  intro sb nb db g o f d fs p k x vs r w h0 hq
  cases hq
set_option maxHeartbeats 8000000 in
set_option maxRecDepth 100000 in
theorem SemaScopes_c (many : Int) (w : World) (ha : -9223372036854775808 ≤ many ∧ many ≤ 9223372036854775807) : Calls Try.prog 3 #[.int .i64 many] w fun e w' => e = .returned (.bool true) ∧ Below w.heap.size w w' := by
  clear ha
  obtain ⟨p, hp⟩ : ∃ p : Nat, bits .and .i64 many 31 = (p : Int) ∧ p < 32 := ⟨(many % 32).toNat, by rw [i64_and31]; omega, by omega⟩
  obtain ⟨hp, hp2⟩ := hp
  obtain ⟨n, hn⟩ : ∃ n : Nat, n = p % 20 := ⟨_, rfl⟩
  have hn20 : n < 20 := by omega
  have hrem : Int.tmod (p : Int) 20 = (n : Int) := by rw [hn, Int.tmod_eq_emod_of_nonneg (by omega)]; omega
  have hw1 : ∀ i : Nat, i ≤ 100000 → IntKind.i64.wrap ((i : Int) + 1) = ((i + 1 : Nat) : Int) := fun i hi => by rw [IntKind.wrap_i64]; omega
  have hnI : (n : Int) < 20 := by omega
  have HAW := fun w => awake7 w
  have HO1 : Hid (∀ U : ByteArray, U = S (scS n) → ∀ w, Calls Try.prog 6 #[.string (U ++ ⟨#[101, 110, 100, 109, 111, 100, 117, 108, 101]⟩)] w fun e w' => ∃ g cp, e = .returned (.slice (some ⟨g, 0, none⟩) 1 cp) ∧ Below w.heap.size w w' ∧ Hid (Calls Try.prog 5 #[.slice (some ⟨g, 0, none⟩) 1 cp] w' fun e w'' => CkP none w' e w'')) := fun U hU w => cOf alN_c (F := 700) (by rw [L_append, hU, L_S]; exact scNm hn20) w
  have HO2 : Hid (∀ U : ByteArray, U = S (scS n) → ∀ w, Calls Try.prog 6 #[.string (U ++ ⟨#[97, 115, 115, 105, 103, 110, 32, 120, 32, 61, 32, 97, 59, 32, 101, 110, 100, 109, 111, 100, 117, 108, 101]⟩)] w fun e w' => ∃ g cp, e = .returned (.slice (some ⟨g, 0, none⟩) 1 cp) ∧ Below w.heap.size w w' ∧ Hid (Calls Try.prog 5 #[.slice (some ⟨g, 0, none⟩) 1 cp] w' fun e w'' => CkP (some ((U.size : Int), 73)) w' e w'')) := fun U hU w => cOf alN_c (F := 700) (by
    have e : U.size = (scS n).length := by rw [hU, size_S]
    rw [L_append, hU, L_S, ← hU, e]; exact scNa hn20) w
  have HLS : Hid ((scS n).length ≤ 2000) := by
    show (scS n).length ≤ 2000
    unfold scS
    rw [List.length_append, List.length_append, rpL_len, rpL_len]
    have e1 : scH.length = 43 := by decide
    have e2 : scF.length = 62 := by decide
    have e3 : scE.length = 4 := by decide
    rw [e1, e2, e3]
    omega
  clear hn
  go_enter Try.func3, Try.ntmps3
  go_wp2
  go_loopw [4, 5] (fun s v wr => ∃ (i : Nat) (T : ByteArray), i ≤ n ∧ T.size ≤ 43 + 62 * i ∧ s = .string T ∧ v = .int .i64 i ∧ Hid (T = S (scH ++ rpL i scF)) ∧ Hid (wr = w)) (fun _ v _ => n - (intOf v).toNat)
  case atStart => exact ⟨0, _, Nat.zero_le _, (by decide), rfl, rfl, rfl, rfl⟩
  case round =>
    obtain ⟨i, T, hi, hT, rfl, rfl, HT, HW⟩ := hrel
    have hwr := HW.out
    subst hwr
    clear HW
    by_cases hlt : i < n
    · have hltI : (i : Int) < (n : Int) := by omega
      have hww := hw1 i (by omega)
      have hsz : T.size + 62 ≤ maxLen := by unfold maxLen; omega
      go_wp2
      go_roundw
      case rel =>
        refine ⟨i + 1, _, by omega, ?_, rfl, by go_num, apS (b := scF) HT.out rfl (by rw [List.append_assoc, rpL_snoc]), trivial⟩
        rw [ByteArray.size_append]
        show T.size + 62 ≤ _
        omega
      case measure => simp [intOf]; omega
    · have hei : i = n := by omega
      subst hei
      have hnlt : ¬ ((i : Int) < (i : Int)) := by omega
      go_wp2
      go_loopw [4, 6] (fun s v w2 => ∃ (j : Nat) (U : ByteArray), j ≤ i ∧ U.size ≤ 1300 + 4 * j ∧ s = .string U ∧ v = .int .i64 j ∧ Hid (U = S (scH ++ rpL i scF ++ rpL j scE)) ∧ Hid (w2 = wr)) (fun _ v _ => i - (intOf v).toNat)
      case atStart => exact ⟨0, T, Nat.zero_le _, (by omega), rfl, rfl, (by show T = _; rw [HT.out, rpL, List.append_nil]), rfl⟩
      case round =>
        obtain ⟨j, U, hj, hU, rfl, rfl, HU, HW⟩ := hrel
        have hwr := HW.out
        subst hwr
        clear HW
        by_cases hlt2 : j < i
        · have hltI : (j : Int) < (i : Int) := by omega
          have hww := hw1 j (by omega)
          have hsz : U.size + 4 ≤ maxLen := by unfold maxLen; omega
          go_wp2
          go_roundw
          case rel =>
            refine ⟨j + 1, _, by omega, ?_, rfl, by go_num, apS (b := scE) HU.out rfl (by rw [List.append_assoc, rpL_snoc]), trivial⟩
            rw [ByteArray.size_append]
            show U.size + 4 ≤ _
            omega
          case measure => simp [intOf]; omega
        · have hej : j = i := by omega
          subst hej
          have HUS : Hid (U = S (scS j)) := HU.out
          have hsz : U.size + 30 ≤ maxLen := by unfold maxLen; omega
          have hsz1 : U.size + 9 ≤ maxLen := by unfold maxLen; omega
          have hsz2 : U.size + 23 ≤ maxLen := by unfold maxLen; omega
          have K1 := HO1.out U HUS.out
          have K2 := HO2.out U HUS.out
          go_wp2_with (first
            | (go_at_call 6; have hx := hb2; refine (K2 _).mono ?_; rintro e w3 ⟨g3, cp3, rfl, hb3, HC3⟩)
            | (go_at_call 6; refine (K1 _).mono ?_; rintro e w1 ⟨g1, cp1, rfl, hb1, HC1⟩)
            | (go_at_call 5; have hx := hb3; refine HC3.out.mono ?_; rintro e w4 ⟨gd4, rfl, c40, c41, dl4, hb4⟩)
            | (go_at_call 5; refine HC1.out.mono ?_; rintro e w2 ⟨rfl, hb2⟩)
            | (go_at_call 7; refine (HAW _).mono ?_; rintro e w5 ⟨rfl, hb5⟩))
          go_ret
          exact ⟨rfl, bel (bel (bel hb1 hb2) (bel hb3 hb4)) hb5⟩
end Go.Proofs.Ytpnhefjiobnelaa
