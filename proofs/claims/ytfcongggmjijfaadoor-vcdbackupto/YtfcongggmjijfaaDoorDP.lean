/- Layer 19: has a waveform a name that is not written. -/
import Derived.Test.YtfcongggmjijfaaDoorDK
namespace Go.Proofs.YtfcongggmjijfaaDoor
set_option maxRecDepth 100000
open Go.RowKit Lg Nl Go.Maps Wf Vd
set_option linter.unusedVariables false
set_option linter.unusedSimpArgs false

theorem sameB_self (x : Wv) : sameB x x = true := by
  unfold sameB
  simp
set_option maxHeartbeats 4000000 in
set_option maxRecDepth 100000 in
theorem lUnder_c (x : Wv) (vn vw vf vl : Value) (w : World) (hx : WvAt w vn vw vf vl x) (hb : Bd x) : Calls Tryd.prog 11 #[.agg #[vn, vw, vf, vl]] w fun e w' => e = .returned (.bool (undB x)) ∧ Below w.heap.size w w' := by
  have HA : Hid (WvAt w vn vw vf vl x) := hx
  have HBd : Hid (Bd x) := hb
  obtain ⟨u, hu⟩ : ∃ u, u = undB x := ⟨_, rfl⟩
  rw [← hu]
  have HU : Hid (u = undB x) := hu
  clear hx hb hu
  obtain ⟨W0, hW0⟩ : ∃ W0, W0 = w.alloc (.cells #[vn, vw, vf, vl] 26) := ⟨_, rfl⟩
  have HB0 : Hid (Below w.heap.size w W0) := by rw [hW0]; exact belA (Below.refl _ _) _
  have HX0 : Hid (W0.heap[w.heap.size]? = some (.cells #[vn, vw, vf, vl] 26 (0, 0))) := by rw [hW0]; exact alAt rfl
  have HA0 : Hid (WvAt W0 vn vw vf vl x) := HA.out.below HB0.out
  obtain ⟨an, cn, rfl, _, _⟩ := HA0.out.nm
  go_enter Tryd.func11, Tryd.ntmps11
  go_upto_region 1 with fail
  rw [← hW0]
  clear hW0 HA
  obtain ⟨b0, b1, b2, b3⟩ := cells4 HX0.out
  obtain ⟨E, hE⟩ : ∃ E, E = w.heap.size := ⟨_, rfl⟩
  rw [← hE] at HX0 b0 b1 b2 b3 ⊢
  have HEs : Hid (E = w.heap.size) := hE
  clear hE
  go_upto_region 2 with fail
  go_loopg [3] x.nm.length (fun g s3 wr => ∃ i : Nat, i ≤ x.nm.length ∧ g = x.nm.length - i ∧ s3 = .int .i64 i ∧ Hid (∀ j, j < i → L (sA x.nm j) ≠ [95]) ∧ W0 = wr)
  case atStart => exact ⟨0, Nat.zero_le _, rfl, rfl, fun j h => absurd h (Nat.not_lt_zero _), rfl⟩
  case round =>
    obtain ⟨i, hi, rfl, rfl, HN, rfl⟩ := hrel
    by_cases hin : i < x.nm.length
    · obtain ⟨gl, ol, eal, hgl, c0⟩ := HA0.out.nm.at_ i hin
      subst eal
      obtain ⟨s1, hs1⟩ : ∃ s1, s1 = sA x.nm i := ⟨_, rfl⟩
      rw [← hs1] at c0
      have n0 : (0 : Int) ≤ (i : Int) := by omega
      have n1 : (i : Int) < (x.nm.length : Int) := by omega
      have HIn : Hid (i < x.nm.length) := hin
      have hw : wrap64 ((i : Int) + 1) = (i : Int) + 1 := by have := HBd.out.nm; unfold wrap64; omega
      by_cases hq : L s1 = [95]
      · have hq' : (s1.toList == [95]) = true := by rw [beq_iff_eq, toL]; exact hq
        have HY : Hid (undB x = true) := und_yes hin (by rw [← hs1]; exact hq)
        clear hq hs1 hin
        go_wp2_with fail
        go_ret
        exact ⟨by rw [HU.out, HY.out]; rfl, HB0.out⟩
      · have hq' : (s1.toList == [95]) = false := by rw [beq_eq_false_iff_ne, toL]; exact hq
        have HY : Hid (∀ j, j < i + 1 → L (sA x.nm j) ≠ [95]) := fun j hj => by
          by_cases e : j = i
          · rw [e, ← hs1]; exact hq
          · exact HN.out j (by omega)
        clear hq hs1 hin
        go_wp2_with fail
        go_roundg (x.nm.length - (i + 1))
        case measure => exact Nat.sub_lt_sub_left HIn.out (Nat.lt_succ_self i)
        case rel => exact ⟨i + 1, HIn.out, rfl, congrArg (Value.int IntKind.i64) (hw.trans rfl), HY.out, rfl⟩
    · have hie : i = x.nm.length := by omega
      subst hie
      have n1 : ¬ (x.nm.length : Int) < (x.nm.length : Int) := by omega
      have HY : Hid (undB x = false) := und_no HN.out
      clear hin hi
      go_wp2_with fail
      go_ret
      exact ⟨by rw [HU.out, HY.out]; rfl, HB0.out⟩
end Go.Proofs.YtfcongggmjijfaaDoor
