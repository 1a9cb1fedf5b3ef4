/- Layer 19: VcdCodes, walked over what the program's functions tell. -/
import Derived.Test.YtfcongggmjijfaaDoorDI
namespace Go.Proofs.YtfcongggmjijfaaDoor
set_option maxRecDepth 100000
open Go.RowKit Lg Nl Go.Maps Wf Vd
set_option linter.unusedVariables false
set_option linter.unusedSimpArgs false

structure PD : Prop where
  wr : WriteC
  re : ReadA
  co : CodeC
theorem PD.aw (h : PD) (w : World) (hp : PowT w) : Calls Tryd.prog 12 #[] w fun e w' => e = .returned (.bool true) ∧ Below w.heap.size w w' := awake19 h.wr h.re h.co w hp
def emp : ByteArray := ⟨#[]⟩
theorem S_nil : S [] = emp := rfl
theorem cd_no {n : Int} (h : n < 0 ∨ 4096 ≤ n) : S (cdT n) = ⟨#[]⟩ ∧ cdE n = 1 := by
  have e : okN n = false := decide_eq_false (by omega)
  unfold cdT cdE
  rw [e, if_neg (by decide), if_neg (by decide)]
  exact ⟨rfl, rfl⟩
theorem cd_yes {n : Nat} (h : n < 4096) : S (cdT n) = S (codeL n) ∧ cdE n = 0 := by
  have e : okN n = true := decide_eq_true (by omega)
  unfold cdT cdE
  rw [e, if_pos rfl, if_pos rfl]
  exact ⟨rfl, rfl⟩
theorem S_inj {a b : List UInt8} (h : S a = S b) : a = b := by
  have := congrArg (fun s : ByteArray => s.data.toList) h
  simpa [S] using this
theorem code_same {n m : Nat} (hn : n < 4096) (hm : m < 4096) : ((S (codeL n)).toList == (S (codeL m)).toList) = ((n : Int) == (m : Int)) := by
  by_cases h : n = m
  · subst h
    rw [beq_self_eq_true, beq_self_eq_true]
  · rw [ne_listV (fun e => h (codeL_inj hn hm (S_inj e)))]
    exact (beq_eq_false_iff_ne.2 (fun e => h (by omega))).symm
set_option maxHeartbeats 800000 in
set_option maxRecDepth 1000000 in
theorem VcdCodes_c (P : PD) (a b : Int) (w : World) (hp : PowT w) (ha1 : -9223372036854775808 ≤ a) (ha2 : a ≤ 9223372036854775807) (hb1 : -9223372036854775808 ≤ b) (hb2 : b ≤ 9223372036854775807) : Calls Tryd.prog 4 #[.int .i64 a, .int .i64 b] w fun e w' => e = .returned (.bool true) ∧ Below w.heap.size w w' := by
  have HP : Hid PD := P
  have HT : Hid (PowT w) := hp
  have HB : Hid (-9223372036854775808 ≤ b ∧ b ≤ 9223372036854775807) := ⟨hb1, hb2⟩
  have HA : Hid (-9223372036854775808 ≤ a ∧ a ≤ 9223372036854775807) := ⟨ha1, ha2⟩
  clear P hp hb1 hb2 ha1 ha2
  go_enter Tryd.func4, Tryd.ntmps4
  go_upto_region 2 with (first
    | (go_at_call 13; refine (HP.out.co a _ HA.out.1 HA.out.2).mono ?_; rintro e w1 ⟨rfl, hb1⟩))
  have HB1 : Hid (Below w.heap.size w w1) := hb1
  clear hb1
  go_upto_region 3 with (first
    | (go_at_call 13; refine (HP.out.co b _ HB.out.1 HB.out.2).mono ?_; rintro e w2 ⟨rfl, hb2⟩))
  have HB2 : Hid (Below w1.heap.size w1 w2) := hb2
  clear hb2
  have HT2 : Hid (PowT w2) := (HT.out.bel HB1.out).bel HB2.out
  by_cases ha : a < 0 ∨ 4096 ≤ a
  · rw [(cd_no ha).1, (cd_no ha).2]
    have hc : decide (a < 0) = true ∨ (decide (a < 0) = false ∧ decide (4096 ≤ a) = true) := by
      by_cases h : a < 0
      · exact Or.inl (decide_eq_true h)
      · exact Or.inr ⟨decide_eq_false h, decide_eq_true (by omega)⟩
    clear ha
    rcases hc with hc | ⟨hc, hc2⟩ <;> (
      go_wp2_with (first
        | (go_at_call 12; refine (HP.out.aw _ HT2.out).mono ?_; rintro e w3 ⟨rfl, hb3⟩))
      go_ret
      exact ⟨rfl, bel HB1.out (bel HB2.out hb3)⟩)
  · obtain ⟨n, rfl⟩ := Int.eq_ofNat_of_zero_le (a := a) (by omega)
    have HN : Hid (n < 4096) := by show _ < _; omega
    rw [(cd_yes HN.out).1, (cd_yes HN.out).2]
    have c1 : decide ((n : Int) < 0) = false := decide_eq_false (by omega)
    have c2 : decide (4096 ≤ (n : Int)) = false := decide_eq_false (by omega)
    clear ha
    by_cases hb : b < 0 ∨ 4096 ≤ b
    · rw [(cd_no hb).1, (cd_no hb).2]
      have hc : decide (b < 0) = true ∨ (decide (b < 0) = false ∧ decide (4096 ≤ b) = true) := by
        by_cases h : b < 0
        · exact Or.inl (decide_eq_true h)
        · exact Or.inr ⟨decide_eq_false h, decide_eq_true (by omega)⟩
      clear hb
      rcases hc with hc | ⟨hc, hc2⟩ <;> (
        go_wp2_with (first
          | (go_at_call 14; refine (rCode_c n _ HN.out).mono ?_; rintro e w3 ⟨rfl, hb3⟩)
          | (go_at_call 12; refine (HP.out.aw _ (HT2.out.bel hb3)).mono ?_; rintro e w4 ⟨rfl, hb4⟩))
        go_ret
        exact ⟨rfl, bel HB1.out (bel HB2.out (bel hb3 hb4))⟩)
    · obtain ⟨m, rfl⟩ := Int.eq_ofNat_of_zero_le (a := b) (by omega)
      have HM : Hid (m < 4096) := by show _ < _; omega
      rw [(cd_yes HM.out).1, (cd_yes HM.out).2]
      have d1 : decide ((m : Int) < 0) = false := decide_eq_false (by omega)
      have d2 : decide (4096 ≤ (m : Int)) = false := decide_eq_false (by omega)
      have he := code_same HN.out HM.out
      clear hb
      go_wp2_with (first
        | (go_at_call 14; refine (rCode_c n _ HN.out).mono ?_; rintro e w3 ⟨rfl, hb3⟩)
        | (go_at_call 12; refine (HP.out.aw _ (HT2.out.bel hb3)).mono ?_; rintro e w4 ⟨rfl, hb4⟩))
      go_ret
      exact ⟨rfl, bel HB1.out (bel HB2.out (bel hb3 hb4))⟩
end Go.Proofs.YtfcongggmjijfaaDoor
