/- Layer 18: the program's changes. -/
import Derived.Test.YtodpljgajjcdoaaGreatDoorVLb
import Derived.BigRegion
namespace Go.Proofs.YtodpljgajjcdoaaGreatDoor
set_option maxRecDepth 100000
open Go.RowKit Lg Nl Go.Maps Wf
set_option linter.unusedVariables false
set_option linter.unusedSimpArgs false

set_option maxHeartbeats 8000000 in
set_option maxRecDepth 1000000 in
theorem changes_c (x : Wv) (vn vw vf vl : Value) (w : World) (hx : WvAt w vn vw vf vl x) (hz : Sz x) (hlen : lenB x = true) : Calls Tryz.prog 28 #[.agg #[vn, vw, vf, vl]] w fun e w' => e = .returned (.bool (lsB x.wd none x.fi x.li)) ∧ Below w.heap.size w w' := by
  have hL0 : x.nm.length ≤ 4096 ∧ x.wd.length = x.nm.length ∧ x.fi.length = x.nm.length := of_decide_eq_true hlen
  have HL : Hid (x.nm.length ≤ 4096 ∧ x.wd.length = x.nm.length ∧ x.fi.length = x.nm.length) := hL0
  clear hL0
  have HA : Hid (WvAt w vn vw vf vl x) := hx
  have HZ : Hid (Sz x) := hz
  obtain ⟨an, cn, rfl, _, _⟩ := hx.nm
  obtain ⟨aw, cw, rfl, _, _⟩ := hx.wd
  obtain ⟨af, cf, rfl, hcf, _⟩ := hx.fi
  obtain ⟨al, cl, rfl, _, _⟩ := hx.li
  clear hx hz hcf hlen
  obtain ⟨W0, hW0⟩ : ∃ W0, W0 = w.alloc (.cells #[.slice an x.nm.length cn, .slice aw x.wd.length cw, .slice af x.fi.length cf, .slice al x.li.length cl] 27) := ⟨_, rfl⟩
  have HB0 : Hid (Below w.heap.size w W0) := by rw [hW0]; exact belA (Below.refl _ _) _
  have HX0 : Hid (W0.heap[w.heap.size]? = some (.cells #[.slice an x.nm.length cn, .slice aw x.wd.length cw, .slice af x.fi.length cf, .slice al x.li.length cl] 27 (0, 0))) := by rw [hW0]; exact alAt rfl
  have HA0 : Hid (WvAt W0 (.slice an x.nm.length cn) (.slice aw x.wd.length cw) (.slice af x.fi.length cf) (.slice al x.li.length cl) x) := HA.out.below HB0.out
  have HCl : Hid (Calls Tryz.prog 49 #[.slice af x.fi.length cf] W0 fun e w' => ∃ v', e = .returned v' ∧ Hid (w'.ownsRow W0.heap.size 9 1 v' x.fi.length (sC x.fi)) ∧ Below W0.heap.size W0 w') := cloneS_c _ x.fi W0 HA0.out.fi (by have := HL.out; omega)
  go_enter Tryz.func28, Tryz.ntmps28
  go_upto_region 1 with fail
  rw [← hW0]
  clear hW0 HA
  obtain ⟨b0, b1, b2, b3⟩ := cells4 HX0.out
  have lb := hLt HX0.out
  obtain ⟨E, hE⟩ : ∃ E, E = w.heap.size := ⟨_, rfl⟩
  rw [← hE] at HX0 b0 b1 b2 b3 lb ⊢
  have HE : Hid (E = w.heap.size) := hE
  clear hE
  have HBw : Hid (∀ X, Below W0.heap.size W0 X → Below w.heap.size w X) := fun X hX => bel HB0.out hX
  go_upto_region 2 with (first
    | (go_at_call 49; refine HCl.out.mono ?_; rintro e wy ⟨v1, rfl, HO, hby⟩))
  obtain ⟨ag, cg, rfl⟩ := own_slice HO.out
  have HBy : Hid (Below W0.heap.size W0 wy) := hby
  clear hby HCl b0 b1 b2 b3
  obtain ⟨b0, b1, b2, b3⟩ := cells4 ((HBy.out.block E lb).trans HX0.out)
  have lby := Nat.lt_of_lt_of_le lb HBy.out.size
  go_wp2_with fail
  go_loopg [12] x.li.length (fun g s6 wr => ∃ (i : Nat) (now : List ByteArray), i ≤ x.li.length ∧ g = x.li.length - i ∧ s6 = .int .i64 i ∧ Hid (now.length = x.fi.length) ∧ Hid (wr.ownsRow W0.heap.size 9 1 (.slice ag x.fi.length cg) x.fi.length (sC now)) ∧ Hid (lsB x.wd none x.fi x.li = lsB x.wd (pvB x.li i) now (x.li.drop i)) ∧ Hid (Below W0.heap.size W0 wr))
  case atStart => exact ⟨0, x.fi, Nat.zero_le _, rfl, rfl, rfl, HO.out, rfl, HBy.out⟩
  case round =>
    obtain ⟨i, now, hi, rfl, rfl, HNl, HO2, HLs, HBz⟩ := hrel
    obtain ⟨wz, hwz⟩ : ∃ wz, wz = wr := ⟨_, rfl⟩
    rw [← hwz] at HBz HO2 ⊢
    clear hwz b0 b1 b2 b3 lby
    obtain ⟨b0, b1, b2, b3⟩ := cells4 ((HBz.out.block E lb).trans HX0.out)
    have lbz := Nat.lt_of_lt_of_le lb HBz.out.size
    have hA := HA0.out.below HBz.out
    by_cases hin : i < x.li.length
    · obtain ⟨gl, ol, rfl, hgl, c0, c1, c2⟩ := hA.li.at_ i hin
      have HAz : Hid (WvAt wz (.slice an x.nm.length cn) (.slice aw x.wd.length cw) (.slice af x.fi.length cf) (.slice (some ⟨gl, ol, none⟩) x.li.length cl) x) := hA
      have HSt : Hid _ := ls_step x.wd (pvB x.li i) now x.li i hin
      have HSv0 : Hid ((cA x.li i).v.size ≤ maxLen) := HZ.out.li _ (cA_mem hin)
      have i0 : (0 : Int) ≤ (i : Int) := by omega
      have i1 : (i : Int) < (x.li.length : Int) := by omega
      obtain ⟨y, hy⟩ : ∃ y, y = cA x.li i := ⟨_, rfl⟩
      rw [← hy] at c0 c1 c2 HSt HSv0
      have HYi : Hid (y = cA x.li i) := hy
      clear hA hy
      have HS0 : Hid (lsB x.wd (pvB x.li i) now (x.li.drop i) = (decide (0 ≤ y.n ∧ y.n < now.length ∧ 0 ≤ y.t ∧ y.t ≤ 4611686018427387903) && (match pvB x.li i with | none => true | some a => ahB a y) && vec (L y.v) && decide ((y.v.size : Int) = iA x.wd y.n.toNat) && decide (y.v ≠ sA now y.n.toNat) && lsB x.wd (some y) (now.set y.n.toNat y.v) (x.li.drop (i + 1)))) := HSt.out
      clear HSt
      obtain ⟨yt, yn, yv⟩ := y
      simp only at c0 c1 c2 HS0 HSv0
      obtain ⟨W1, hW1⟩ : ∃ W1, W1 = wz.alloc (.cells #[.int .i64 yt, .int .i64 yn, .string yv] 34) := ⟨_, rfl⟩
      have HB1 : Hid (Below wz.heap.size wz W1) := by rw [hW1]; exact belA (Below.refl _ _) _
      have HF1 : Hid (W1.heap[wz.heap.size]? = some (.cells #[.int .i64 yt, .int .i64 yn, .string yv] 34 (0, 0))) := by rw [hW1]; exact alAt rfl
      go_upto_region 5 with fail
      rw [← hW1]
      clear hW1 c0 c1 c2 b0 b1 b2 b3 lbz
      obtain ⟨c0, c1, c2⟩ := cells3n HF1.out
      have lF := hLt HF1.out
      obtain ⟨F, hF⟩ : ∃ F, F = wz.heap.size := ⟨_, rfl⟩
      rw [← hF] at c0 c1 c2 HF1 lF ⊢
      have HFz : Hid (F = wz.heap.size) := hF
      clear hF
      have HBW : Hid (Below W0.heap.size W0 W1) := bel HBz.out HB1.out
      have HA1 : Hid (WvAt W1 (.slice an x.nm.length cn) (.slice aw x.wd.length cw) (.slice af x.fi.length cf) (.slice (some ⟨gl, ol, none⟩) x.li.length cl) x) := HAz.out.below HB1.out
      obtain ⟨b0, b1, b2, b3⟩ := cells4 ((HBW.out.block E lb).trans HX0.out)
      have lbz := Nat.lt_of_lt_of_le lb HBW.out.size
      have HFalse : Hid (decide (0 ≤ yn ∧ yn < now.length ∧ 0 ≤ yt ∧ yt ≤ 4611686018427387903) = false → false = lsB x.wd none x.fi x.li) := fun h => by rw [HLs.out, HS0.out, h]; rfl
      have hnn : (x.fi.length : Int) = (now.length : Int) := by have := HNl.out; omega
      by_cases r3 : yt < 0
      · have r3' : decide (yt < 0) = true := decide_eq_true r3
        have HY : Hid (false = lsB x.wd none x.fi x.li) := HFalse.out (decide_eq_false fun h => by omega)
        clear r3 hnn
        go_quiet (fail)
        go_wp2_with fail
        go_ret
        exact ⟨ret_bool HY.out, HBw.out _ (bdn HBW.out _)⟩
      by_cases r4 : 4611686018427387903 < yt
      · have r3' : decide (yt < 0) = false := decide_eq_false r3
        have r4' : decide (4611686018427387903 < yt) = true := decide_eq_true r4
        have HY : Hid (false = lsB x.wd none x.fi x.li) := HFalse.out (decide_eq_false fun h => by omega)
        clear r3 r4 hnn
        go_quiet (fail)
        go_wp2_with fail
        go_ret
        exact ⟨ret_bool HY.out, HBw.out _ (bdn HBW.out _)⟩
      have r3' : decide (yt < 0) = false := decide_eq_false r3
      have r4' : decide (4611686018427387903 < yt) = false := decide_eq_false r4
      by_cases r1 : yn < 0
      · have r1' : decide (yn < 0) = true := decide_eq_true r1
        have HY : Hid (false = lsB x.wd none x.fi x.li) := HFalse.out (decide_eq_false fun h => by omega)
        clear r1 r3 r4 hnn
        go_quiet (fail)
        go_wp2_with fail
        go_ret
        exact ⟨ret_bool HY.out, HBw.out _ (bdn HBW.out _)⟩
      have r1' : decide (yn < 0) = false := decide_eq_false r1
      by_cases r2 : (x.fi.length : Int) ≤ yn
      · have r2' : decide ((x.fi.length : Int) ≤ yn) = true := decide_eq_true r2
        have HY : Hid (false = lsB x.wd none x.fi x.li) := HFalse.out (decide_eq_false fun h => by omega)
        clear r1 r2 r3 r4 hnn
        go_quiet (fail)
        go_wp2_with fail
        go_ret
        exact ⟨ret_bool HY.out, HBw.out _ (bdn HBW.out _)⟩
      have r2' : decide ((x.fi.length : Int) ≤ yn) = false := decide_eq_false r2
      have HRg : Hid (decide (0 ≤ yn ∧ yn < now.length ∧ 0 ≤ yt ∧ yt ≤ 4611686018427387903) = true) := decide_eq_true ⟨by omega, by omega, by omega, by omega⟩
      have HKn : Hid (0 ≤ yn ∧ yn < (x.fi.length : Int)) := ⟨by omega, by omega⟩
      clear r1 r2 r3 r4
      obtain ⟨pv, hpv⟩ : ∃ pv : Bool, pv = (match pvB x.li i with | none => true | some a => ahB a ⟨yt, yn, yv⟩) := ⟨_, rfl⟩
      have HPv : Hid (pv = (match pvB x.li i with | none => true | some a => ahB a ⟨yt, yn, yv⟩)) := hpv
      rw [← hpv] at HS0
      clear hpv hnn HFalse
      go_cut [51] from 17 to 78 (fun s51 wy => s51 = .bool (!pv) ∧ Hid (Below W1.heap.size W1 wy))
      case first =>
        by_cases h0 : i = 0
        · have h0' : decide (0 < i) = false := decide_eq_false (by omega)
          have h0'' : decide ((0 : Int) < (i : Int)) = false := decide_eq_false (by omega)
          have HP : Hid (pv = true) := by rw [HPv.out, show pvB x.li i = none from by unfold pvB; rw [if_pos h0]]; rfl
          clear h0
          go_quiet (fail)
          go_wp2_with fail
          go_meet
          exact ⟨by rw [HP.out]; rfl, bdn (Below.refl _ _) _⟩
        · obtain ⟨k, rfl⟩ : ∃ k, i = k + 1 := ⟨i - 1, by omega⟩
          obtain ⟨g', o', eg, hgk, p0, p1, p2⟩ := HA1.out.li.at_ k (by omega)
          injection eg with eg
          injection eg with eg1 eg2
          subst eg1 eg2
          have HP : Hid (ahB (cA x.li k) ⟨yt, yn, yv⟩ = pv) := by have h := HPv.out; rw [show pvB x.li (k + 1) = some (cA x.li k) from by unfold pvB; rw [if_neg (by omega)]; rfl] at h; exact h.symm
          have k1 : (k : Int) < (x.li.length : Int) := by omega
          have k2 : (k : Int) < 140737488355328 := by have := HZ.out.ln; omega
          have hwk : IntKind.i64.wrap (k : Int) = (k : Int) := by rw [IntKind.wrap_i64]; omega
          have hkn : k < x.li.length := by omega
          have h0'' : decide ((0 : Int) < ((k + 1 : Nat) : Int)) = true := decide_eq_true (by omega)
          clear h0 HPv HS0 HAz HA1 HLs
          generalize cA x.li k = z at *
          obtain ⟨zt, zn, zv⟩ := z
          simp only at p0 p1 p2
          have HRi : Hid (∀ W, Calls Tryz.prog 50 #[.agg #[.int .i64 zt, .int .i64 zn, .string zv], .agg #[.int .i64 yt, .int .i64 yn, .string yv]] W fun e w' => e = .returned (.bool pv) ∧ Below W.heap.size W w') := fun W => by have := rises_c ⟨zt, zn, zv⟩ ⟨yt, yn, yv⟩ W; rw [HP.out] at this; exact this
          go_region_held (fun w' => w'.cell? ⟨F, 0, none⟩ = some (.int .i64 yt) ∧ w'.cell? ⟨F, 1, none⟩ = some (.int .i64 yn) ∧ w'.cell? ⟨F, 2, none⟩ = some (.string yv) ∧ w'.cell? ⟨E, 3, none⟩ = some (.slice (some ⟨gl, ol, none⟩) x.li.length cl) ∧ w'.cell? ⟨gl, ol + k * 3, none⟩ = some (.int .i64 zt) ∧ w'.cell? ⟨gl, ol + k * 3 + 1, none⟩ = some (.int .i64 zn) ∧ w'.cell? ⟨gl, ol + k * 3 + 2, none⟩ = some (.string zv)) (go_keep) (first
            | (go_at_call 50; refine (HRi.out _).mono ?_; rintro e w5 ⟨rfl, hb5⟩; obtain ⟨c0', c1', c2'⟩ := cells3n ((hb5.block F lF).trans HF1.out); obtain ⟨b0', b1', b2', b3'⟩ := cells4 ((hb5.block E lbz).trans ((HBW.out.block E lb).trans HX0.out)); have p0' := (hb5.cell (p := ⟨gl, ol + k * 3, none⟩) hgk).trans p0; have p1' := (hb5.cell (p := ⟨gl, ol + k * 3 + 1, none⟩) hgk).trans p1; have p2' := (hb5.cell (p := ⟨gl, ol + k * 3 + 2, none⟩) hgk).trans p2))
          all_goals (
            go_wp2_with fail
            go_meet
            exact ⟨rfl, bel (bdn (Below.refl _ _) _) hb5⟩)
      case rest =>
        obtain ⟨rfl, HB3⟩ := hcut
        obtain ⟨w3, hw3⟩ : ∃ w3, w3 = wc := ⟨_, rfl⟩
        rw [← hw3] at HB3 ⊢
        clear hw3
        have HBW3 : Hid (Below W0.heap.size W0 w3) := bel HBW.out HB3.out
        cases pv with
        | false =>
          have HY : Hid (false = lsB x.wd none x.fi x.li) := by show false = lsB x.wd none x.fi x.li; rw [HLs.out, HS0.out]; simp
          go_wp2_with fail
          go_ret
          exact ⟨ret_bool HY.out, HBw.out _ HBW3.out⟩
        | true =>
          obtain ⟨kn, rfl⟩ : ∃ kn : Nat, yn = (kn : Int) := ⟨yn.toNat, by have := HKn.out; omega⟩
          obtain ⟨m2, m3, m4⟩ : kn < x.wd.length ∧ kn < x.fi.length ∧ kn < now.length := by have := HL.out; have := HNl.out; have := HKn.out; omega
          have n2 : (kn : Int) < (x.wd.length : Int) := by omega
          have n3 : (kn : Int) < (x.fi.length : Int) := by omega
          have n0 : (0 : Int) ≤ (kn : Int) := by omega
          clear c0 c1 c2 b0 b1 b2 b3 r1' r2' r3' r4'
          obtain ⟨c0, c1, c2⟩ := cells3n ((HB3.out.block F lF).trans HF1.out)
          have lF3 := Nat.lt_of_lt_of_le lF HB3.out.size
          obtain ⟨b0, b1, b2, b3⟩ := cells4 ((HBW3.out.block E lb).trans HX0.out)
          have lb3 := Nat.lt_of_lt_of_le lb HBW3.out.size
          obtain ⟨gw, ow, rfl, hgw, ew⟩ := IntsAt.at_ (HA1.out.below HB3.out).wd kn m2
          have HO3 : Hid (w3.ownsRow W0.heap.size 9 1 (.slice ag x.fi.length cg) x.fi.length (sC now)) := own_below (own_below HO2.out HB1.out) HB3.out
          obtain ⟨gs, rfl⟩ := own_some HO3.out (by omega)
          have es : w3.cell? ⟨gs, kn, none⟩ = some (.string (sA now kn)) := (HO3.out.cellAt kn (by omega)).trans (sC_at m4)
          have HGs : Hid (W0.heap.size ≤ gs ∧ gs < w3.heap.size) := World.ownsRow.lt HO3.out gs rfl
          have lgs := HGs.out.2
          have HS1 : Hid (lsB x.wd none x.fi x.li = (fitB yv (iA x.wd kn) && decide (yv ≠ sA now kn) && lsB x.wd (some ⟨yt, kn, yv⟩) (now.set kn yv) (x.li.drop (i + 1)))) := by show lsB x.wd none x.fi x.li = _; rw [HLs.out, HS0.out, HRg.out, Int.toNat_natCast]; unfold fitB; simp
          have HV0 : Hid (∀ W, Calls Tryz.prog 48 #[.string yv, .int .i64 (iA x.wd kn)] W fun e w' => e = .returned (.bool (fitB yv (iA x.wd kn))) ∧ Below W.heap.size W w') := fun W => fits_c yv (iA x.wd kn) W HSv0.out
          clear HS0 HRg HPv
          generalize hzw : iA x.wd kn = zw at *
          generalize hsn : sA now kn = sn at *
          by_cases q3 : yv = sn
          · have HY : Hid (false = lsB x.wd none x.fi x.li) := by show false = lsB x.wd none x.fi x.li; rw [HS1.out, decide_eq_false (not_not_intro q3)]; simp
            subst q3
            clear HV0 hsn hzw
            go_wp2_with fail
            go_quiet (fail)
            go_wp2_with fail
            go_ret
            exact ⟨ret_bool HY.out, HBw.out _ (bdn HBW3.out _)⟩
          · have q3' := ne_listV q3
            have q3n : ¬ yv.toList = sn.toList := by rw [beq_eq_false_iff_ne] at q3'; exact q3'
            rw [decide_eq_true q3] at HS1
            clear q3 hsn hzw
            cases q : fitB yv zw
            · have HV : Hid (∀ W, Calls Tryz.prog 48 #[.string yv, .int .i64 zw] W fun e w' => e = .returned (.bool false) ∧ Below W.heap.size W w') := by have := HV0.out; rw [q] at this; exact this
              have HY : Hid (false = lsB x.wd none x.fi x.li) := by show false = lsB x.wd none x.fi x.li; rw [HS1.out, q]; rfl
              clear HV0 HS1 q
              go_wp2_with fail
              go_region_held (fun w' => w'.cell? ⟨F, 1, none⟩ = some (.int .i64 (kn : Int)) ∧ w'.cell? ⟨F, 2, none⟩ = some (.string yv) ∧ w'.cell? ⟨E, 1, none⟩ = some (.slice (some ⟨gw, ow, none⟩) x.wd.length cw) ∧ w'.cell? ⟨gs, kn, none⟩ = some (.string sn) ∧ w'.cell? ⟨gw, ow + kn, none⟩ = some (.int .i64 zw)) (go_keep) (first
                | (go_at_call 48; refine (HV.out _).mono ?_; rintro e w6 ⟨rfl, hb6⟩; obtain ⟨c0', c1', c2'⟩ := cells3n ((hb6.block F lF3).trans ((HB3.out.block F lF).trans HF1.out)); obtain ⟨b0', b1', b2', b3'⟩ := cells4 ((hb6.block E lb3).trans ((HBW3.out.block E lb).trans HX0.out)); have es' := (hb6.cell (p := ⟨gs, kn, none⟩) lgs).trans es; have ew' := (hb6.cell (p := ⟨gw, ow + kn, none⟩) hgw).trans ew))
              all_goals (
                go_wp2_with fail
                go_ret
                exact ⟨ret_bool HY.out, HBw.out _ (bel (bdn HBW3.out _) hb6)⟩)
            · have HV : Hid (∀ W, Calls Tryz.prog 48 #[.string yv, .int .i64 zw] W fun e w' => e = .returned (.bool true) ∧ Below W.heap.size W w') := by have := HV0.out; rw [q] at this; exact this
              have HS2 : Hid (lsB x.wd none x.fi x.li = lsB x.wd (some ⟨yt, kn, yv⟩) (now.set kn yv) (x.li.drop (i + 1))) := by show lsB x.wd none x.fi x.li = _; rw [HS1.out, q]; simp
              clear HV0 HS1 q
              go_wp2_with fail
              go_region_held (fun w' => w'.cell? ⟨F, 1, none⟩ = some (.int .i64 (kn : Int)) ∧ w'.cell? ⟨F, 2, none⟩ = some (.string yv) ∧ w'.cell? ⟨E, 1, none⟩ = some (.slice (some ⟨gw, ow, none⟩) x.wd.length cw) ∧ w'.cell? ⟨gs, kn, none⟩ = some (.string sn) ∧ w'.cell? ⟨gw, ow + kn, none⟩ = some (.int .i64 zw)) (go_keep) (first
                | (go_at_call 48; refine (HV.out _).mono ?_; rintro e w6 ⟨rfl, hb6⟩; obtain ⟨c0', c1', c2'⟩ := cells3n ((hb6.block F lF3).trans ((HB3.out.block F lF).trans HF1.out)); obtain ⟨b0', b1', b2', b3'⟩ := cells4 ((hb6.block E lb3).trans ((HBW3.out.block E lb).trans HX0.out)); have es' := (hb6.cell (p := ⟨gs, kn, none⟩) lgs).trans es; have ew' := (hb6.cell (p := ⟨gw, ow + kn, none⟩) hgw).trans ew))
              all_goals (
                have HO6 : Hid (w6.ownsRow W0.heap.size 9 1 (.slice (some ⟨gs, 0, none⟩) x.fi.length cg) x.fi.length (sC now)) := own_below (w := w3.drew) HO3.out hb6
                have HB6 : Hid (Below W0.heap.size W0 w6) := bel (bdn HBW3.out 1) hb6
                have fs := World.ownsRow.frozenAt HO6.out kn
                have lgs6 := Nat.lt_of_lt_of_le lgs hb6.size
                have lF6 := Nat.lt_of_lt_of_le lF3 hb6.size
                clear hb6
                go_wp2_with fail
                go_roundg (x.li.length - (i + 1))
                case measure => omega
                case rel =>
                  refine ⟨i + 1, now.set kn yv, hin, rfl, wrap_succ hin HZ.out.ln, ?_, ?_, ?_, ?_⟩
                  · show _ = _; rw [List.length_set]; exact HNl.out
                  · exact st1 (own_at2 HO6.out fun _ _ => rfl) kn yv
                  · show _ = _
                    rw [HS2.out, (pv_succ x.li i).trans (congrArg some HYi.out.symm)]
                  · exact belSetV HB6.out HGs.out.1)
    · have hie : i = x.li.length := by omega
      have HY : Hid (true = lsB x.wd none x.fi x.li) := by rw [HLs.out, List.drop_of_length_le (by omega)]; rfl
      have i5 : ¬ (i : Int) < (x.li.length : Int) := by omega
      clear hin hie hA
      go_wp2_with fail
      go_ret
      exact ⟨ret_bool HY.out, HBw.out _ HBz.out⟩
end Go.Proofs.YtodpljgajjcdoaaGreatDoor
