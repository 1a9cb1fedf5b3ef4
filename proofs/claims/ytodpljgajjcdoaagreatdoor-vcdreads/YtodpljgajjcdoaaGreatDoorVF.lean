/- Layer 18: whether two waveforms are the same (the document's; names held too). -/
import Derived.Test.YtodpljgajjcdoaaGreatDoorVE
namespace Go.Proofs.YtodpljgajjcdoaaGreatDoor
set_option maxRecDepth 100000
open Go.RowKit Lg Nl Go.Maps Wf
set_option linter.unusedVariables false
set_option linter.unusedSimpArgs false

set_option maxHeartbeats 4000000 in
set_option maxRecDepth 1000000 in
theorem sameW_c (x y : Wv) (vn vw vf vl un uw uf ul : Value) (w : World) (hx : WvAt w vn vw vf vl x) (hy : WvAt w un uw uf ul y) (hb : Bd x) : Calls Tryz.prog 7 #[.agg #[vn, vw, vf, vl], .agg #[un, uw, uf, ul], .bool true] w fun e w' => e = .returned (.bool (sameB x y)) ∧ Below w.heap.size w w' := by
  have HA : Hid (WvAt w vn vw vf vl x) := hx
  have HC : Hid (WvAt w un uw uf ul y) := hy
  have HBd : Hid (Bd x) := hb
  obtain ⟨an, cn, rfl, _, _⟩ := hx.nm
  obtain ⟨aw, cw, rfl, _, _⟩ := hx.wd
  obtain ⟨af, cf, rfl, _, _⟩ := hx.fi
  obtain ⟨al, cl, rfl, _, _⟩ := hx.li
  obtain ⟨ao2, cn2, rfl, _, _⟩ := hy.nm
  obtain ⟨av2, cw2, rfl, _, _⟩ := hy.wd
  obtain ⟨ag2, cf2, rfl, _, _⟩ := hy.fi
  obtain ⟨am2, cl2, rfl, _, _⟩ := hy.li
  clear hx hy hb
  obtain ⟨W0, hW0⟩ : ∃ W0, W0 = (w.alloc (.cells #[.slice an x.nm.length cn, .slice aw x.wd.length cw, .slice af x.fi.length cf, .slice al x.li.length cl] 27)).alloc (.cells #[.slice ao2 y.nm.length cn2, .slice av2 y.wd.length cw2, .slice ag2 y.fi.length cf2, .slice am2 y.li.length cl2] 27) := ⟨_, rfl⟩
  have HB0 : Hid (Below w.heap.size w W0) := by rw [hW0]; exact belA (belA (Below.refl _ _) _) _
  have HX0 : Hid (W0.heap[w.heap.size]? = some (.cells #[.slice an x.nm.length cn, .slice aw x.wd.length cw, .slice af x.fi.length cf, .slice al x.li.length cl] 27 (0, 0))) := by rw [hW0]; exact (alOld (by rw [size_al]; omega)).trans (alAt rfl)
  have HY0 : Hid (W0.heap[w.heap.size + 1]? = some (.cells #[.slice ao2 y.nm.length cn2, .slice av2 y.wd.length cw2, .slice ag2 y.fi.length cf2, .slice am2 y.li.length cl2] 27 (0, 0))) := by rw [hW0]; exact alAt (size_al _ _)
  have HA0 : Hid (WvAt W0 (.slice an x.nm.length cn) (.slice aw x.wd.length cw) (.slice af x.fi.length cf) (.slice al x.li.length cl) x) := HA.out.below HB0.out
  have HC0 : Hid (WvAt W0 (.slice ao2 y.nm.length cn2) (.slice av2 y.wd.length cw2) (.slice ag2 y.fi.length cf2) (.slice am2 y.li.length cl2) y) := HC.out.below HB0.out
  go_enter Tryz.func7, Tryz.ntmps7
  go_upto_region 1 with fail
  rw [← hW0]
  clear hW0 HA HC
  obtain ⟨b0, b1, b2, b3⟩ := cells4 HX0.out
  have lb := hLt HX0.out
  obtain ⟨d0, d1, d2, d3⟩ := cells4 HY0.out
  have ld := hLt HY0.out
  obtain ⟨E, hE⟩ : ∃ E, E = w.heap.size := ⟨_, rfl⟩
  rw [← hE] at HX0 HY0 b0 b1 b2 b3 lb d0 d1 d2 d3 ld ⊢
  have HE : Hid (E = w.heap.size) := hE
  clear hE
  have HBw : Hid (∀ X, Below W0.heap.size W0 X → Below w.heap.size w X) := fun X hX => bel HB0.out hX
  by_cases l1 : x.fi.length = y.fi.length
  rotate_left
  · have l1' : ((x.fi.length : Int) != (y.fi.length : Int)) = true := by rw [bne_iff_ne]; omega
    have HNo : Hid (¬ sameP x y) := fun h => l1 (by rw [h.1])
    go_wp2_with fail
    go_ret
    exact ⟨ret_bool (sameB_no HNo.out), HBw.out _ (Below.refl _ _)⟩
  have l1' : ((x.fi.length : Int) != (y.fi.length : Int)) = false := by rw [bne_eq_false_iff_eq]; omega
  by_cases l2 : x.wd.length = y.wd.length
  rotate_left
  · have l2' : ((x.wd.length : Int) != (y.wd.length : Int)) = true := by rw [bne_iff_ne]; omega
    have HNo : Hid (¬ sameP x y) := fun h => l2 (by rw [h.2.1])
    go_wp2_with fail
    go_ret
    exact ⟨ret_bool (sameB_no HNo.out), HBw.out _ (Below.refl _ _)⟩
  have l2' : ((x.wd.length : Int) != (y.wd.length : Int)) = false := by rw [bne_eq_false_iff_eq]; omega
  by_cases l3 : x.li.length = y.li.length
  rotate_left
  · have l3' : ((x.li.length : Int) != (y.li.length : Int)) = true := by rw [bne_iff_ne]; omega
    have HNo : Hid (¬ sameP x y) := fun h => l3 h.2.2.2.1
    go_wp2_with fail
    go_ret
    exact ⟨ret_bool (sameB_no HNo.out), HBw.out _ (Below.refl _ _)⟩
  have l3' : ((x.li.length : Int) != (y.li.length : Int)) = false := by rw [bne_eq_false_iff_eq]; omega
  by_cases l4 : x.nm.length = y.nm.length
  rotate_left
  · have l4' : ((x.nm.length : Int) != (y.nm.length : Int)) = true := by rw [bne_iff_ne]; omega
    have HNo : Hid (¬ sameP x y) := fun h => l4 (by rw [h.2.2.1])
    go_wp2_with fail
    go_ret
    exact ⟨ret_bool (sameB_no HNo.out), HBw.out _ (Below.refl _ _)⟩
  have l4' : ((x.nm.length : Int) != (y.nm.length : Int)) = false := by rw [bne_eq_false_iff_eq]; omega
  have HL : Hid (x.fi.length = y.fi.length ∧ x.wd.length = y.wd.length ∧ x.li.length = y.li.length ∧ x.nm.length = y.nm.length) := ⟨l1, l2, l3, l4⟩
  clear l1 l2 l4
  go_wp2_with fail
  clear l3 l1' l2' l3' l4'
  go_loopg [7] x.fi.length (fun g s wr => ∃ i : Nat, i ≤ x.fi.length ∧ g = x.fi.length - i ∧ s = .int .i64 i ∧ Hid (∀ j, j < i → sA x.fi j = sA y.fi j) ∧ Hid (Below W0.heap.size W0 wr))
  case atStart => exact ⟨0, Nat.zero_le _, rfl, rfl, (fun j hj => absurd hj (Nat.not_lt_zero _)), Below.refl _ _⟩
  case round =>
    obtain ⟨i, hi, rfl, rfl, HR, HBq⟩ := hrel
    obtain ⟨wq, hwq⟩ : ∃ wq, wq = wr := ⟨_, rfl⟩
    rw [← hwq] at HBq ⊢
    clear hwq
    clear b0 b1 b2 b3 d0 d1 d2 d3
    obtain ⟨b0, b1, b2, b3⟩ := cells4 ((HBq.out.block E lb).trans HX0.out)
    obtain ⟨d0, d1, d2, d3⟩ := cells4 ((HBq.out.block (E + 1) ld).trans HY0.out)
    have lbx := Nat.lt_of_lt_of_le lb HBq.out.size
    have ldx := Nat.lt_of_lt_of_le ld HBq.out.size
    by_cases hin : i < x.fi.length
    · obtain ⟨g1, o1, q1, hg1, ex⟩ := (HA0.out.below HBq.out).fi.at_ i hin
      obtain ⟨g2, o2, q2, hg2, ey⟩ := (HC0.out.below HBq.out).fi.at_ i (by have := HL.out.1; omega)
      rw [q1] at b2
      rw [q2] at d2
      clear q1 q2
      have i0 : (0 : Int) ≤ (i : Int) := by omega
      have i1 : (i : Int) < (x.fi.length : Int) := by omega
      have i2 : (i : Int) < (y.fi.length : Int) := by have := HL.out.1; omega
      have HNo : Hid (sA x.fi i ≠ sA y.fi i → ¬ sameP x y) := fun h h2 => ne_s h h2.1
      have HYs : Hid (sA x.fi i = sA y.fi i → ∀ j, j < i + 1 → sA x.fi j = sA y.fi j) := fun h => all_succ HR.out h
      generalize sA x.fi i = z1 at *
      generalize sA y.fi i = z2 at *
      by_cases hz : z1 = z2
      · subst hz
        have hz' := eq_listV z1
        have HY := HYs.out rfl
        have HY : Hid (∀ j, j < i + 1 → sA x.fi j = sA y.fi j) := HY
        go_wp2_with fail
        go_quiet (fail)
        go_wp2_with fail
        go_roundg (x.fi.length - (i + 1))
        case measure => omega
        case rel => exact ⟨i + 1, hin, rfl, wrap_succ hin HBd.out.fi, HY.out, bdn HBq.out _⟩
      · have hz' := ne_listV hz
        have HY : Hid (¬ sameP x y) := HNo.out hz
        clear hz
        go_wp2_with fail
        go_quiet (fail)
        go_wp2_with fail
        go_ret
        exact ⟨ret_bool (sameB_no HY.out), HBw.out _ (bdn HBq.out _)⟩
    · have hie : i = x.fi.length := by omega
      have i5 : ¬ (i : Int) < (x.fi.length : Int) := by omega
      rw [hie] at HR
      have HFI : Hid (x.fi = y.fi) := ext_s (HL.out.1) HR.out
      clear hin hie HR
      have HBr : Hid (Below W0.heap.size W0 wq) := HBq.out
      go_wp2_with fail
      clear i5
      go_loopg [8] x.wd.length (fun g s wr => ∃ i : Nat, i ≤ x.wd.length ∧ g = x.wd.length - i ∧ s = .int .i64 i ∧ Hid (∀ j, j < i → iA x.wd j = iA y.wd j) ∧ Hid (Below W0.heap.size W0 wr))
      case atStart => exact ⟨0, Nat.zero_le _, rfl, rfl, (fun j hj => absurd hj (Nat.not_lt_zero _)), HBr.out⟩
      case round =>
        obtain ⟨i, hi, rfl, rfl, HR, HBq⟩ := hrel
        obtain ⟨wq, hwq⟩ : ∃ wq, wq = wr := ⟨_, rfl⟩
        rw [← hwq] at HBq ⊢
        clear hwq
        clear b0 b1 b2 b3 d0 d1 d2 d3 lbx ldx
        obtain ⟨b0, b1, b2, b3⟩ := cells4 ((HBq.out.block E lb).trans HX0.out)
        obtain ⟨d0, d1, d2, d3⟩ := cells4 ((HBq.out.block (E + 1) ld).trans HY0.out)
        have lbx := Nat.lt_of_lt_of_le lb HBq.out.size
        have ldx := Nat.lt_of_lt_of_le ld HBq.out.size
        by_cases hin : i < x.wd.length
        · obtain ⟨g1, o1, q1, hg1, ex⟩ := (HA0.out.below HBq.out).wd.at_ i hin
          obtain ⟨g2, o2, q2, hg2, ey⟩ := (HC0.out.below HBq.out).wd.at_ i (by have := HL.out.2.1; omega)
          rw [q1] at b1
          rw [q2] at d1
          clear q1 q2
          have i0 : (0 : Int) ≤ (i : Int) := by omega
          have i1 : (i : Int) < (x.wd.length : Int) := by omega
          have i2 : (i : Int) < (y.wd.length : Int) := by have := HL.out.2.1; omega
          have HNo : Hid (iA x.wd i ≠ iA y.wd i → ¬ sameP x y) := fun h h2 => ne_i h h2.2.1
          have HYs : Hid (iA x.wd i = iA y.wd i → ∀ j, j < i + 1 → iA x.wd j = iA y.wd j) := fun h => all_succ HR.out h
          generalize iA x.wd i = z1 at *
          generalize iA y.wd i = z2 at *
          by_cases hz : z1 = z2
          · have hz' : (z1 == z2) = true := by rw [beq_iff_eq]; exact hz
            have HY : Hid (∀ j, j < i + 1 → iA x.wd j = iA y.wd j) := HYs.out hz
            clear hz
            go_wp2_with fail
            go_quiet (fail)
            go_wp2_with fail
            go_roundg (x.wd.length - (i + 1))
            case measure => omega
            case rel => exact ⟨i + 1, hin, rfl, wrap_succ hin HBd.out.wd, HY.out, bdn HBq.out _⟩
          · have hz' : (z1 == z2) = false := by rw [beq_eq_false_iff_ne]; exact hz
            have HY : Hid (¬ sameP x y) := HNo.out hz
            clear hz
            go_wp2_with fail
            go_quiet (fail)
            go_wp2_with fail
            go_ret
            exact ⟨ret_bool (sameB_no HY.out), HBw.out _ (bdn HBq.out _)⟩
        · have hie : i = x.wd.length := by omega
          have i5 : ¬ (i : Int) < (x.wd.length : Int) := by omega
          rw [hie] at HR
          have HWD : Hid (x.wd = y.wd) := ext_i (HL.out.2.1) HR.out
          clear hin hie HR
          have HBr : Hid (Below W0.heap.size W0 wq) := HBq.out
          go_wp2_with fail
          clear i5
          go_loopg [9] x.nm.length (fun g s wr => ∃ i : Nat, i ≤ x.nm.length ∧ g = x.nm.length - i ∧ s = .int .i64 i ∧ Hid (∀ j, j < i → sA x.nm j = sA y.nm j) ∧ Hid (Below W0.heap.size W0 wr))
          case atStart => exact ⟨0, Nat.zero_le _, rfl, rfl, (fun j hj => absurd hj (Nat.not_lt_zero _)), HBr.out⟩
          case round =>
            obtain ⟨i, hi, rfl, rfl, HR, HBq⟩ := hrel
            obtain ⟨wq, hwq⟩ : ∃ wq, wq = wr := ⟨_, rfl⟩
            rw [← hwq] at HBq ⊢
            clear hwq
            clear b0 b1 b2 b3 d0 d1 d2 d3 lbx ldx
            obtain ⟨b0, b1, b2, b3⟩ := cells4 ((HBq.out.block E lb).trans HX0.out)
            obtain ⟨d0, d1, d2, d3⟩ := cells4 ((HBq.out.block (E + 1) ld).trans HY0.out)
            have lbx := Nat.lt_of_lt_of_le lb HBq.out.size
            have ldx := Nat.lt_of_lt_of_le ld HBq.out.size
            by_cases hin : i < x.nm.length
            · obtain ⟨g1, o1, q1, hg1, ex⟩ := (HA0.out.below HBq.out).nm.at_ i hin
              obtain ⟨g2, o2, q2, hg2, ey⟩ := (HC0.out.below HBq.out).nm.at_ i (by have := HL.out.2.2.2; omega)
              rw [q1] at b0
              rw [q2] at d0
              clear q1 q2
              have i0 : (0 : Int) ≤ (i : Int) := by omega
              have i1 : (i : Int) < (x.nm.length : Int) := by omega
              have i2 : (i : Int) < (y.nm.length : Int) := by have := HL.out.2.2.2; omega
              have HNo : Hid (sA x.nm i ≠ sA y.nm i → ¬ sameP x y) := fun h h2 => ne_s h h2.2.2.1
              have HYs : Hid (sA x.nm i = sA y.nm i → ∀ j, j < i + 1 → sA x.nm j = sA y.nm j) := fun h => all_succ HR.out h
              generalize sA x.nm i = z1 at *
              generalize sA y.nm i = z2 at *
              by_cases hz : z1 = z2
              · subst hz
                have hz' := eq_listV z1
                have HY := HYs.out rfl
                have HY : Hid (∀ j, j < i + 1 → sA x.nm j = sA y.nm j) := HY
                go_wp2_with fail
                go_quiet (fail)
                go_wp2_with fail
                go_roundg (x.nm.length - (i + 1))
                case measure => omega
                case rel => exact ⟨i + 1, hin, rfl, wrap_succ hin HBd.out.nm, HY.out, bdn HBq.out _⟩
              · have hz' := ne_listV hz
                have HY : Hid (¬ sameP x y) := HNo.out hz
                clear hz
                go_wp2_with fail
                go_quiet (fail)
                go_wp2_with fail
                go_ret
                exact ⟨ret_bool (sameB_no HY.out), HBw.out _ (bdn HBq.out _)⟩
            · have hie : i = x.nm.length := by omega
              have i5 : ¬ (i : Int) < (x.nm.length : Int) := by omega
              rw [hie] at HR
              have HNM : Hid (x.nm = y.nm) := ext_s (HL.out.2.2.2) HR.out
              clear hin hie HR
              have HBr : Hid (Below W0.heap.size W0 wq) := HBq.out
              go_wp2_with fail
              clear i5
              go_loopg [10] x.li.length (fun g s wr => ∃ i : Nat, i ≤ x.li.length ∧ g = x.li.length - i ∧ s = .int .i64 i ∧ Hid (∀ j, j < i → cA x.li j = cA y.li j) ∧ Hid (Below W0.heap.size W0 wr))
              case atStart => exact ⟨0, Nat.zero_le _, rfl, rfl, (fun j hj => absurd hj (Nat.not_lt_zero _)), HBr.out⟩
              case round =>
                obtain ⟨i, hi, rfl, rfl, HR, HBq⟩ := hrel
                obtain ⟨wq, hwq⟩ : ∃ wq, wq = wr := ⟨_, rfl⟩
                rw [← hwq] at HBq ⊢
                clear hwq
                clear b0 b1 b2 b3 d0 d1 d2 d3 lbx ldx
                obtain ⟨b0, b1, b2, b3⟩ := cells4 ((HBq.out.block E lb).trans HX0.out)
                obtain ⟨d0, d1, d2, d3⟩ := cells4 ((HBq.out.block (E + 1) ld).trans HY0.out)
                have lbx := Nat.lt_of_lt_of_le lb HBq.out.size
                have ldx := Nat.lt_of_lt_of_le ld HBq.out.size
                by_cases hin : i < x.li.length
                · obtain ⟨g1, o1, q1, hg1, e0, e1, e2⟩ := (HA0.out.below HBq.out).li.at_ i hin
                  obtain ⟨g2, o2, q2, hg2, f0, f1, f2⟩ := (HC0.out.below HBq.out).li.at_ i (by have := HL.out.2.2.1; omega)
                  rw [q1] at b3
                  rw [q2] at d3
                  clear q1 q2
                  have i0 : (0 : Int) ≤ (i : Int) := by omega
                  have i1 : (i : Int) < (x.li.length : Int) := by omega
                  have i2 : (i : Int) < (y.li.length : Int) := by have := HL.out.2.2.1; omega
                  have HNo : Hid (cA x.li i ≠ cA y.li i → ¬ sameP x y) := fun h h2 => ne_c hin h h2.2.2.2.2
                  have HYs : Hid (cA x.li i = cA y.li i → ∀ j, j < i + 1 → cA x.li j = cA y.li j) := fun h => all_succ HR.out h
                  generalize cA x.li i = z1 at *
                  generalize cA y.li i = z2 at *
                  obtain ⟨t1, n1, v1⟩ := z1
                  obtain ⟨t2, n2, v2⟩ := z2
                  simp only at e0 e1 e2 f0 f1 f2
                  by_cases h1 : t1 = t2
                  · by_cases h2 : n1 = n2
                    · by_cases h3 : v1 = v2
                      · subst h1 h2 h3
                        have hz1 : (t1 == t1) = true := by rw [beq_iff_eq]
                        have hz2 : (n1 == n1) = true := by rw [beq_iff_eq]
                        have hz3 := eq_listV v1
                        have HY : Hid (∀ j, j < i + 1 → cA x.li j = cA y.li j) := HYs.out rfl
                        go_wp2_with fail
                        go_quiet (fail)
                        go_wp2_with fail
                        go_roundg (x.li.length - (i + 1))
                        case measure => omega
                        case rel => exact ⟨i + 1, hin, rfl, wrap_succ hin HBd.out.li, HY.out, bdn HBq.out _⟩
                      · subst h1 h2
                        have hz1 : (t1 == t1) = true := by rw [beq_iff_eq]
                        have hz2 : (n1 == n1) = true := by rw [beq_iff_eq]
                        have hz3 := ne_listV h3
                        have HY : Hid (¬ sameP x y) := HNo.out (fun e => by injection e with _ _ e; exact h3 e)
                        clear h3
                        go_wp2_with fail
                        go_quiet (fail)
                        go_wp2_with fail
                        go_ret
                        exact ⟨ret_bool (sameB_no HY.out), HBw.out _ (bdn HBq.out _)⟩
                    · subst h1
                      have hz1 : (t1 == t1) = true := by rw [beq_iff_eq]
                      have hz2 : (n1 == n2) = false := by rw [beq_eq_false_iff_ne]; exact h2
                      have HY : Hid (¬ sameP x y) := HNo.out (fun e => by injection e with _ e _; exact h2 e)
                      clear h2
                      go_wp2_with fail
                      go_quiet (fail)
                      go_wp2_with fail
                      go_ret
                      exact ⟨ret_bool (sameB_no HY.out), HBw.out _ (bdn HBq.out _)⟩
                  · have hz1 : (t1 == t2) = false := by rw [beq_eq_false_iff_ne]; exact h1
                    have HY : Hid (¬ sameP x y) := HNo.out (fun e => by injection e with e _ _; exact h1 e)
                    clear h1
                    go_wp2_with fail
                    go_quiet (fail)
                    go_wp2_with fail
                    go_ret
                    exact ⟨ret_bool (sameB_no HY.out), HBw.out _ (bdn HBq.out _)⟩
                · have hie : i = x.li.length := by omega
                  have i5 : ¬ (i : Int) < (x.li.length : Int) := by omega
                  rw [hie] at HR
                  have HLI : Hid (x.li = y.li.take x.li.length) := ext_c (Nat.le_of_eq (HL.out.2.2.1)) HR.out
                  clear hin hie HR
                  have HBr : Hid (Below W0.heap.size W0 wq) := HBq.out
                  go_wp2_with fail
                  go_ret
                  exact ⟨ret_bool (sameB_yes ⟨HFI.out, HWD.out, HNM.out, HL.out.2.2.1, HLI.out⟩), HBw.out _ HBr.out⟩
end Go.Proofs.YtodpljgajjcdoaaGreatDoor
