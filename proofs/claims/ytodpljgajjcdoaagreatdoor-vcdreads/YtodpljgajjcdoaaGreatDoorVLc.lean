/- Layer 18: the program's declares. -/
import Derived.Test.YtodpljgajjcdoaaGreatDoorVLb
namespace Go.Proofs.YtodpljgajjcdoaaGreatDoor
set_option maxRecDepth 100000
open Go.RowKit Lg Nl Go.Maps Wf
set_option linter.unusedVariables false
set_option linter.unusedSimpArgs false

def decB (x : Wv) : Bool := lenB x && (List.range x.nm.length).all (netB x)
theorem dec_no1 {x : Wv} (h : lenB x = false) : decB x = false := by unfold decB; rw [h]; rfl
theorem dec_no2 {x : Wv} (h : (List.range x.nm.length).all (netB x) = false) : decB x = false := by unfold decB; rw [h, Bool.and_false]
theorem netB_is (x : Wv) (i : Nat) : netB x i = (nameB (sA x.nm i) && fitB (sA x.fi i) (iA x.wd i)) := by unfold netB fitB; rw [Bool.and_assoc]
set_option maxHeartbeats 4000000 in
set_option maxRecDepth 1000000 in
theorem declares_c (x : Wv) (vn vw vf vl : Value) (w : World) (hx : WvAt w vn vw vf vl x) (hz : Sz x) : Calls Tryz.prog 27 #[.agg #[vn, vw, vf, vl]] w fun e w' => e = .returned (.bool (decB x)) ∧ Below w.heap.size w w' := by
  have HA : Hid (WvAt w vn vw vf vl x) := hx
  have HZ : Hid (Sz x) := hz
  obtain ⟨an, cn, rfl, _, _⟩ := hx.nm
  obtain ⟨aw, cw, rfl, _, _⟩ := hx.wd
  obtain ⟨af, cf, rfl, hcf, _⟩ := hx.fi
  obtain ⟨al, cl, rfl, _, _⟩ := hx.li
  clear hx hz hcf
  obtain ⟨W0, hW0⟩ : ∃ W0, W0 = w.alloc (.cells #[.slice an x.nm.length cn, .slice aw x.wd.length cw, .slice af x.fi.length cf, .slice al x.li.length cl] 27) := ⟨_, rfl⟩
  have HB0 : Hid (Below w.heap.size w W0) := by rw [hW0]; exact belA (Below.refl _ _) _
  have HX0 : Hid (W0.heap[w.heap.size]? = some (.cells #[.slice an x.nm.length cn, .slice aw x.wd.length cw, .slice af x.fi.length cf, .slice al x.li.length cl] 27 (0, 0))) := by rw [hW0]; exact alAt rfl
  have HA0 : Hid (WvAt W0 (.slice an x.nm.length cn) (.slice aw x.wd.length cw) (.slice af x.fi.length cf) (.slice al x.li.length cl) x) := HA.out.below HB0.out
  go_enter Tryz.func27, Tryz.ntmps27
  go_upto_region 1 with fail
  rw [← hW0]
  clear hW0 HA
  obtain ⟨b0, b1, b2, b3⟩ := cells4 HX0.out
  have lb := hLt HX0.out
  obtain ⟨E, hE⟩ : ∃ E, E = w.heap.size := ⟨_, rfl⟩
  rw [← hE] at HX0 b0 b1 b2 b3 lb ⊢
  have HE : Hid (E = w.heap.size) := hE
  clear hE
  have HBw : Hid (∀ X, Below W0.heap.size W0 X → Below w.heap.size w X) := fun X hX => bel HB0.out hX
  by_cases l1 : x.nm.length ≤ 4096
  · have l1' : decide ((4096 : Int) < (x.nm.length : Int)) = false := decide_eq_false (by omega)
    by_cases l2 : x.wd.length = x.nm.length
    · have l2' : ((x.wd.length : Int) == (x.nm.length : Int)) = true := by rw [beq_iff_eq]; omega
      by_cases l3 : x.fi.length = x.nm.length
      · have l3' : ((x.fi.length : Int) == (x.nm.length : Int)) = true := by rw [beq_iff_eq]; omega
        have HL : Hid (x.nm.length ≤ 4096 ∧ x.wd.length = x.nm.length ∧ x.fi.length = x.nm.length) := ⟨l1, l2, l3⟩
        go_wp2_with fail
        clear l1 l2 l3 l1' l2' l3'
        go_loopg [28] x.nm.length (fun g s4 wr => ∃ i : Nat, i ≤ x.nm.length ∧ g = x.nm.length - i ∧ s4 = .int .i64 i ∧ Hid ((List.range i).all (netB x) = true) ∧ Hid (Below W0.heap.size W0 wr))
        case atStart => exact ⟨0, Nat.zero_le _, rfl, rfl, rfl, Below.refl _ _⟩
        case round =>
          obtain ⟨i, hi, rfl, rfl, HR, HBr⟩ := hrel
          obtain ⟨wx, hwx⟩ : ∃ wx, wx = wr := ⟨_, rfl⟩
          rw [← hwx] at HBr ⊢
          clear hwx b0 b1 b2 b3
          obtain ⟨b0, b1, b2, b3⟩ := cells4 ((HBr.out.block E lb).trans HX0.out)
          have lbx := Nat.lt_of_lt_of_le lb HBr.out.size
          have hA := HA0.out.below HBr.out
          by_cases hin : i < x.nm.length
          · obtain ⟨gn, on, rfl, hgn, en⟩ := hA.nm.at_ i hin
            obtain ⟨gw, ow, rfl, hgw, ew⟩ := hA.wd.at_ i (by have := HL.out; omega)
            obtain ⟨gf, of, rfl, hgf, ef⟩ := hA.fi.at_ i (by have := HL.out; omega)
            have hs1 : (sA x.nm i).size ≤ maxLen := HZ.out.nm _ (sA_mem hin)
            have hs2 : (sA x.fi i).size ≤ maxLen := HZ.out.fi _ (sA_mem (by have := HL.out; omega))
            have i0 : (0 : Int) ≤ (i : Int) := by omega
            have i1 : (i : Int) < (x.nm.length : Int) := by omega
            have i2 : (i : Int) < (x.wd.length : Int) := by have := HL.out; omega
            have i3 : (i : Int) < (x.fi.length : Int) := by have := HL.out; omega
            have HNt : Hid (netB x i = (nameB (sA x.nm i) && fitB (sA x.fi i) (iA x.wd i))) := netB_is x i
            have HNo : Hid (netB x i = false → false = decB x) := fun h => (dec_no2 (range_no hin h)).symm
            have HI : Hid ((i : Int) < 4096) := by have := HL.out; show (i : Int) < 4096; omega
            clear hA
            generalize sA x.nm i = s1 at *
            generalize sA x.fi i = s2 at *
            generalize iA x.wd i = z at *
            have HN0 : Hid (∀ W, Calls Tryz.prog 47 #[.string s1] W fun e w' => e = .returned (.bool (nameB s1)) ∧ w' = W) := fun W => names_c s1 W hs1
            have HV0 : Hid (∀ W, Calls Tryz.prog 48 #[.string s2, .int .i64 z] W fun e w' => e = .returned (.bool (fitB s2 z)) ∧ Below W.heap.size W w') := fun W => fits_c s2 z W hs2
            clear hs1 hs2
            go_upto_region 7 with fail
            cases q1 : nameB s1
            · have HN : Hid (∀ W, Calls Tryz.prog 47 #[.string s1] W fun e w' => e = .returned (.bool false) ∧ w' = W) := by have := HN0.out; rw [q1] at this; exact this
              have HY : Hid (false = decB x) := HNo.out (by rw [HNt.out, q1]; rfl)
              clear HN0 HV0 q1
              go_quiet (first | (go_at_call 47; exact Calls.quiet_of_same (HN.out _)))
              go_wp2_with fail
              go_ret
              exact ⟨ret_bool HY.out, HBw.out _ (bdn HBr.out _)⟩
            · have HN : Hid (∀ W, Calls Tryz.prog 47 #[.string s1] W fun e w' => e = .returned (.bool true) ∧ w' = W) := by have := HN0.out; rw [q1] at this; exact this
              cases q2 : fitB s2 z
              · have HV : Hid (∀ W, Calls Tryz.prog 48 #[.string s2, .int .i64 z] W fun e w' => e = .returned (.bool false) ∧ Below W.heap.size W w') := by have := HV0.out; rw [q2] at this; exact this
                have HY : Hid (false = decB x) := HNo.out (by rw [HNt.out, q1, q2]; rfl)
                clear HN0 HV0 q1 q2
                go_region_with (first
                  | (go_at_call 47; refine (HN.out _).mono ?_; rintro e w5 ⟨rfl, rfl⟩)
                  | (go_at_call 48; refine (HV.out _).mono ?_; rintro e w6 ⟨rfl, hb6⟩))
                all_goals (
                  go_wp2_with fail
                  go_ret
                  exact ⟨ret_bool HY.out, HBw.out _ (bel (bdn HBr.out _) hb6)⟩)
              · have HV : Hid (∀ W, Calls Tryz.prog 48 #[.string s2, .int .i64 z] W fun e w' => e = .returned (.bool true) ∧ Below W.heap.size W w') := by have := HV0.out; rw [q2] at this; exact this
                have HY : Hid (netB x i = true) := by show netB x i = true; rw [HNt.out, q1, q2]; rfl
                clear HN0 HV0 q1 q2
                go_region_with (first
                  | (go_at_call 47; refine (HN.out _).mono ?_; rintro e w5 ⟨rfl, rfl⟩)
                  | (go_at_call 48; refine (HV.out _).mono ?_; rintro e w6 ⟨rfl, hb6⟩))
                all_goals (
                  go_wp2_with fail
                  go_roundg (x.nm.length - (i + 1))
                  case measure => omega
                  case rel => exact ⟨i + 1, by omega, rfl, wrap_succ (n := 4096) (by have := HI.out; omega) (by decide), range_snoc HR.out HY.out, bel (bdn HBr.out _) hb6⟩)
          · have hie : i = x.nm.length := by omega
            have HM : Hid (true = decB x) := by
              have h1 : lenB x = true := decide_eq_true HL.out
              have h2 : (List.range x.nm.length).all (netB x) = true := by rw [← hie]; exact HR.out
              show true = decB x
              unfold decB; rw [h1, h2]; rfl
            have i5 : ¬ (i : Int) < (x.nm.length : Int) := by omega
            clear hin hie hA
            go_wp2_with fail
            go_ret
            exact ⟨ret_bool HM.out, HBw.out _ HBr.out⟩
      · have l3' : ((x.fi.length : Int) == (x.nm.length : Int)) = false := by rw [beq_eq_false_iff_ne]; omega
        have HM : Hid (false = decB x) := (dec_no1 (decide_eq_false fun h => l3 h.2.2)).symm
        clear l3
        go_wp2_with fail
        go_ret
        exact ⟨ret_bool HM.out, HB0.out⟩
    · have l2' : ((x.wd.length : Int) == (x.nm.length : Int)) = false := by rw [beq_eq_false_iff_ne]; omega
      have HM : Hid (false = decB x) := (dec_no1 (decide_eq_false fun h => l2 h.2.1)).symm
      clear l2
      go_wp2_with fail
      go_ret
      exact ⟨ret_bool HM.out, HB0.out⟩
  · have l1' : decide ((4096 : Int) < (x.nm.length : Int)) = true := decide_eq_true (by omega)
    have HM : Hid (false = decB x) := (dec_no1 (decide_eq_false fun h => l1 h.1)).symm
    clear l1
    go_wp2_with fail
    go_ret
    exact ⟨ret_bool HM.out, HB0.out⟩
end Go.Proofs.YtodpljgajjcdoaaGreatDoor
