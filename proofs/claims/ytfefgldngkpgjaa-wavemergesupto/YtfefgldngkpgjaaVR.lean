/- Layer 18: WaveCuts, walked over what the program's functions tell. -/
import Derived.Test.YtfefgldngkpgjaaVQ
namespace Go.Proofs.Ytfefgldngkpgjaa
set_option maxRecDepth 100000
open Go.RowKit Lg Nl Go.Maps Wf
set_option linter.unusedVariables false
set_option linter.unusedSimpArgs false

theorem Wi.cut_no {w : World} {vn vw vf vl : Value} {x : Wv} {t : Int} (P : PC) (h : Wi w vn vw vf vl x) (ho : okT x t = false) : Calls Try.prog 12 #[.agg #[vn, vw, vf, vl], .int .i64 t] w fun e w' => ∃ an cn av cv af cf al cl, e = .returned (.tuple #[.agg #[.slice an 0 cn, .slice av 0 cv, .slice af 0 cf, .slice al 0 cl], .int .i64 1]) ∧ Below w.heap.size w w' := by
  refine (P.cu x vn vw vf vl t w h.a h.z h.b h.l).mono ?_
  rintro e w' ⟨un, uw, uf, ul, rfl, hw, hb⟩
  rw [ho, if_neg (by decide)] at hw
  obtain ⟨an, cn, rfl, _, _⟩ := hw.out.nm
  obtain ⟨av, cv, rfl, _, _⟩ := hw.out.wd
  obtain ⟨af, cf, rfl, _, _⟩ := hw.out.fi
  obtain ⟨al, cl, rfl, _, _⟩ := hw.out.li
  exact ⟨an, cn, av, cv, af, cf, al, cl, by rw [ho]; rfl, hb⟩
theorem Wi.cut_yes {w : World} {vn vw vf vl : Value} {x : Wv} {t : Int} (P : PC) (h : Wi w vn vw vf vl x) (ho : okT x t = true) : Calls Try.prog 12 #[.agg #[vn, vw, vf, vl], .int .i64 t] w fun e w' => ∃ an cn av cv af cf al cl, e = .returned (.tuple #[.agg #[.slice an x.nm.length cn, .slice av x.wd.length cv, .slice af x.fi.length cf, .slice al (cutL t x.li).length cl], .int .i64 0]) ∧ Hid (Wi w' (.slice an x.nm.length cn) (.slice av x.wd.length cv) (.slice af x.fi.length cf) (.slice al (cutL t x.li).length cl) (cutW t x)) ∧ Below w.heap.size w w' := by
  refine (P.cu x vn vw vf vl t w h.a h.z h.b h.l).mono ?_
  rintro e w' ⟨un, uw, uf, ul, rfl, hw, hb⟩
  rw [ho, if_pos rfl] at hw
  have hw' : Wi w' un uw uf ul (cutW t x) := ⟨hw.out, sz_cut t h.z, bd_cut t h.b, Nat.le_trans (List.length_filter_le _ _) h.l⟩
  obtain ⟨an, cn, rfl, _, _⟩ := hw.out.nm
  obtain ⟨av, cv, rfl, _, _⟩ := hw.out.wd
  obtain ⟨af, cf, rfl, _, _⟩ := hw.out.fi
  obtain ⟨al, cl, rfl, _, _⟩ := hw.out.li
  exact ⟨an, cn, av, cv, af, cf, al, cl, by rw [ho]; rfl, hw', hb⟩
theorem Wi.at_no {w : World} {vn vw vf vl : Value} {x : Wv} {t : Int} (P : PC) (h : Wi w vn vw vf vl x) (ho : okT x t = false) : Calls Try.prog 13 #[.agg #[vn, vw, vf, vl], .int .i64 t] w fun e w' => ∃ a c, e = .returned (.tuple #[.slice a 0 c, .int .i64 1]) ∧ Below w.heap.size w w' := by
  refine (P.at_ x vn vw vf vl t w h.a h.z h.b h.l).mono ?_
  rintro e w' ⟨v, rfl, hw, hb⟩
  rw [ho, if_neg (by decide)] at hw
  obtain ⟨an, cn, rfl, _, _⟩ := hw.out
  exact ⟨an, cn, by rw [ho]; rfl, hb⟩
theorem Wi.at_yes {w : World} {vn vw vf vl : Value} {x : Wv} {t : Int} (P : PC) (h : Wi w vn vw vf vl x) (ho : okT x t = true) : Calls Try.prog 13 #[.agg #[vn, vw, vf, vl], .int .i64 t] w fun e w' => ∃ a c, e = .returned (.tuple #[.slice a x.fi.length c, .int .i64 0]) ∧ Hid (StrAt w' (.slice a x.fi.length c) (atL t x.fi x.li)) ∧ Below w.heap.size w w' := by
  refine (P.at_ x vn vw vf vl t w h.a h.z h.b h.l).mono ?_
  rintro e w' ⟨v, rfl, hw, hb⟩
  rw [ho, if_pos rfl] at hw
  have h2 := hw.out
  obtain ⟨an, cn, rfl, _, _⟩ := hw.out
  rw [at_len] at h2
  exact ⟨an, cn, by rw [ho, at_len]; rfl, h2, hb⟩
theorem Wi.until {w : World} {vn vw vf vl : Value} {x : Wv} (t : Int) (h : Wi w vn vw vf vl x) : Calls Try.prog 16 #[.agg #[vn, vw, vf, vl], .int .i64 t] w fun e w' => ∃ ul, e = .returned (.agg #[vn, vw, vf, ul]) ∧ Hid (Wi w' vn vw vf ul (cutW t x)) ∧ Below w.heap.size w w' := by
  refine (until_c x vn vw vf vl t w h.a h.l).mono ?_
  rintro e w' ⟨a, c, rfl, ho, hb⟩
  exact ⟨_, rfl, ⟨⟨h.a.nm.below hb.out, h.a.wd.below hb.out, h.a.fi.below hb.out, own_chs ho.out⟩, sz_cut t h.z, bd_cut t h.b, Nat.le_trans (List.length_filter_le _ _) h.l⟩, hb.out⟩
theorem Wi.rat {w : World} {vn vw vf vl : Value} {x : Wv} (t : Int) (h : Wi w vn vw vf vl x) (hm : mayW x = true) : Calls Try.prog 14 #[.agg #[vn, vw, vf, vl], .int .i64 t] w fun e w' => ∃ a c, e = .returned (.slice a x.fi.length c) ∧ Hid (StrAt w' (.slice a x.fi.length c) (atL t x.fi x.li)) ∧ Below w.heap.size w w' := by
  refine (at_c x vn vw vf vl t w h.a h.l (by have := may_len hm; omega) (may_nets hm)).mono ?_
  rintro e w' ⟨a, c, rfl, ho, hb⟩
  refine ⟨a, c, rfl, ?_, hb.out⟩
  have := ho.out
  rw [← at_len t x.li x.fi] at this ⊢
  exact own_strs this
theorem belX {w a b : World} (h : Below w.drew.heap.size w.drew a) (k : Below a.heap.size a b) : Below w.heap.size w b := bel (w := w) (a := a) ((Below.refl w.heap.size w).drew.trans h) k
theorem same_self (x : Wv) : sameB x x = true := (sameB_yes ⟨rfl, rfl, rfl, rfl, (List.take_length).symm⟩).symm
theorem Wi.same {w : World} {vn vw vf vl un uw uf ul : Value} {x : Wv} (h : Wi w vn vw vf vl x) (h2 : Wi w un uw uf ul x) : Calls Try.prog 15 #[.agg #[vn, vw, vf, vl], .agg #[un, uw, uf, ul], .bool true] w fun e w' => e = .returned (.bool true) ∧ Below w.heap.size w w' := by
  have := sameW_c x x vn vw vf vl un uw uf ul w h.a h2.a h.b
  rw [same_self] at this
  exact this
set_option maxHeartbeats 4000000 in
set_option maxRecDepth 1000000 in
theorem WaveCuts_c (P : PC) (x : Wv) (vn vw vf vl : Value) (t : Int) (w : World) (hx : Wi w vn vw vf vl x) : Calls Try.prog 4 #[.agg #[vn, vw, vf, vl], .int .i64 t] w fun e w' => e = .returned (.bool true) ∧ Below w.heap.size w w' := by
  have HP : Hid PC := P
  have HA : Hid (Wi w vn vw vf vl x) := hx
  clear P hx
  obtain ⟨W0, hW0⟩ : ∃ W0, W0 = w.alloc (.cells #[vn, vw, vf, vl] 26) := ⟨_, rfl⟩
  have HB0 : Hid (Below w.heap.size w W0) := by rw [hW0]; exact belA (Below.refl _ _) _
  have HX0 : Hid (W0.heap[w.heap.size]? = some (.cells #[vn, vw, vf, vl] 26 (0, 0))) := by rw [hW0]; exact alAt rfl
  have HA0 : Hid (Wi W0 vn vw vf vl x) := HA.out.below HB0.out
  go_enter Try.func4, Try.ntmps4
  go_upto_region 1 with fail
  rw [← hW0]
  clear hW0 HA
  obtain ⟨b0, b1, b2, b3⟩ := cells4 HX0.out
  have lb := hLt HX0.out
  obtain ⟨E, hE⟩ : ∃ E, E = w.heap.size := ⟨_, rfl⟩
  rw [← hE] at HX0 b0 b1 b2 b3 lb ⊢
  clear hE
  cases ho : okT x t
  · have HO : Hid (okT x t = false) := ho
    clear ho
    go_upto_region 2 with (first
      | (go_at_call 12; refine (HA0.out.cut_no HP.out HO.out).mono ?_; rintro e w1 ⟨an, cn, av, cv, af, cf, al, cl, rfl, hb1⟩))
    obtain ⟨W1, hW1⟩ : ∃ W1, W1 = w1.alloc (.cells #[.slice an 0 cn, .slice av 0 cv, .slice af 0 cf, .slice al 0 cl] 26) := ⟨_, rfl⟩
    rw [← hW1]
    have HB1 : Hid (Below W0.heap.size W0 W1) := by rw [hW1]; exact belA hb1 _
    have HY1 : Hid (W1.heap[w1.heap.size]? = some (.cells #[.slice an 0 cn, .slice av 0 cv, .slice af 0 cf, .slice al 0 cl] 26 (0, 0))) := by rw [hW1]; exact alAt rfl
    clear hW1 hb1 b0 b1 b2 b3
    generalize w1.heap.size = Y at *
    obtain ⟨b0, b1, b2, b3⟩ := cells4 ((HB1.out.block E lb).trans HX0.out)
    have ly := hLt HY1.out
    have lb1 := Nat.lt_of_lt_of_le lb HB1.out.size
    go_upto_region 3 with (first
      | (go_at_call 13; refine ((HA0.out.below HB1.out).at_no HP.out HO.out).mono ?_; rintro e w2 ⟨ar, cr, rfl, hb2⟩))
    have HB2 : Hid (Below W1.heap.size W1 w2) := hb2
    clear hb2 b0 b1 b2 b3
    obtain ⟨b0, b1, b2, b3⟩ := cells4 ((HB2.out.block E lb1).trans ((HB1.out.block E lb).trans HX0.out))
    have lb2 := Nat.lt_of_lt_of_le lb1 HB2.out.size
    cases hm : mayW x
    · have HM : Hid (mayW x = false) := hm
      clear hm
      go_wp2_with (first
        | (go_at_call 10; refine (((HA0.out.below HB1.out).below HB2.out).may HM.out).mono ?_; rintro e w3 ⟨rfl, hb3⟩; obtain ⟨y0, y1, y2, y3⟩ := cells4 ((hb3.block Y (Nat.lt_of_lt_of_le ly HB2.out.size)).trans ((HB2.out.block Y ly).trans HY1.out)); have ly3 := Nat.lt_of_lt_of_le (Nat.lt_of_lt_of_le ly HB2.out.size) hb3.size)
        | (go_at_call 11; refine (HP.out.aw _).mono ?_; rintro e w4 ⟨rfl, hb4⟩))
      go_ret
      exact ⟨rfl, bel HB0.out (bel HB1.out (bel HB2.out (bel hb3 hb4)))⟩
    · have HM : Hid (mayW x = true) := hm
      have ht : t < 0 := by
        have h := HO.out
        unfold okT at h
        rw [hm, Bool.true_and] at h
        have := of_decide_eq_false h
        omega
      have ht' : decide (t < 0) = true := decide_eq_true ht
      clear hm ht
      go_wp2_with (first
        | (go_at_call 10; refine (((HA0.out.below HB1.out).below HB2.out).may HM.out).mono ?_; rintro e w3 ⟨rfl, hb3⟩; obtain ⟨y0, y1, y2, y3⟩ := cells4 ((hb3.block Y (Nat.lt_of_lt_of_le ly HB2.out.size)).trans ((HB2.out.block Y ly).trans HY1.out)); have ly3 := Nat.lt_of_lt_of_le (Nat.lt_of_lt_of_le ly HB2.out.size) hb3.size)
        | (go_at_call 11; refine (HP.out.aw _).mono ?_; rintro e w4 ⟨rfl, hb4⟩))
      go_ret
      exact ⟨rfl, bel HB0.out (bel HB1.out (bel HB2.out (bel hb3 hb4)))⟩
  · have HO : Hid (okT x t = true) := ho
    have hmt : mayW x = true ∧ 0 ≤ t := by
      unfold okT at ho
      rw [Bool.and_eq_true] at ho
      exact ⟨ho.1, of_decide_eq_true ho.2⟩
    have HM : Hid (mayW x = true) := hmt.1
    have ht' : decide (t < 0) = false := decide_eq_false (by omega)
    have HLn : Hid (x.fi.length ≤ 4096) := by have := may_len hmt.1; show _ ≤ _; omega
    clear ho hmt
    go_upto_region 2 with (first
      | (go_at_call 12; refine (HA0.out.cut_yes HP.out HO.out).mono ?_; rintro e w1 ⟨an, cn, av, cv, af, cf, al, cl, rfl, HW1, hb1⟩))
    obtain ⟨W1, hW1⟩ : ∃ W1, W1 = w1.alloc (.cells #[.slice an x.nm.length cn, .slice av x.wd.length cv, .slice af x.fi.length cf, .slice al (cutL t x.li).length cl] 26) := ⟨_, rfl⟩
    rw [← hW1]
    have HB1 : Hid (Below W0.heap.size W0 W1) := by rw [hW1]; exact belA hb1 _
    have HC1 : Hid (Wi W1 (.slice an x.nm.length cn) (.slice av x.wd.length cv) (.slice af x.fi.length cf) (.slice al (cutL t x.li).length cl) (cutW t x)) := by rw [hW1]; exact HW1.out.below (belA (Below.refl _ _) _)
    have HY1 : Hid (W1.heap[w1.heap.size]? = some (.cells #[.slice an x.nm.length cn, .slice av x.wd.length cv, .slice af x.fi.length cf, .slice al (cutL t x.li).length cl] 26 (0, 0))) := by rw [hW1]; exact alAt rfl
    clear hW1 hb1 b0 b1 b2 b3 HW1
    generalize w1.heap.size = Y at *
    obtain ⟨b0, b1, b2, b3⟩ := cells4 ((HB1.out.block E lb).trans HX0.out)
    have ly := hLt HY1.out
    have lb1 := Nat.lt_of_lt_of_le lb HB1.out.size
    go_upto_region 3 with (first
      | (go_at_call 13; refine ((HA0.out.below HB1.out).at_yes HP.out HO.out).mono ?_; rintro e w2 ⟨ar, cr, rfl, HV2, hb2⟩))
    have HB2 : Hid (Below W1.heap.size W1 w2) := hb2
    clear hb2 b0 b1 b2 b3
    obtain ⟨b0, b1, b2, b3⟩ := cells4 ((HB2.out.block E lb1).trans ((HB1.out.block E lb).trans HX0.out))
    have lb2 := Nat.lt_of_lt_of_le lb1 HB2.out.size
    have ly2 := Nat.lt_of_lt_of_le ly HB2.out.size
    go_upto_region 5 with (first
      | (go_at_call 10; refine (((HA0.out.below HB1.out).below HB2.out).may HM.out).mono ?_; rintro e w3 ⟨rfl, hb3⟩))
    have HB3 : Hid (Below w2.heap.size w2 w3) := hb3
    clear hb3 b0 b1 b2 b3 ht'
    have HA3 : Hid (Wi w3 vn vw vf vl x) := ((HA0.out.below HB1.out).below HB2.out).below HB3.out
    obtain ⟨b0, b1, b2, b3⟩ := cells4 ((HB3.out.block E lb2).trans ((HB2.out.block E lb1).trans ((HB1.out.block E lb).trans HX0.out)))
    have lb3 := Nat.lt_of_lt_of_le lb2 HB3.out.size
    have ly3 := Nat.lt_of_lt_of_le ly2 HB3.out.size
    go_upto_region 6 with (first
      | (go_at_call 14; refine (HA3.out.rat t HM.out).mono ?_; rintro e w4 ⟨aq, cq, rfl, HS4, hb4⟩))
    have HB4 : Hid (Below w3.heap.size w3 w4) := hb4
    clear hb4 b0 b1 b2 b3
    have HA4 : Hid (Wi w4.drew vn vw vf vl x) := (HA3.out.below HB4.out).below (Below.refl _ _).drew
    have HC4 : Hid (Wi w4.drew (.slice an x.nm.length cn) (.slice av x.wd.length cv) (.slice af x.fi.length cf) (.slice al (cutL t x.li).length cl) (cutW t x)) := (((HC1.out.below HB2.out).below HB3.out).below HB4.out).below (Below.refl _ _).drew
    have HX4 : Hid (w4.heap[E]? = some (.cells #[vn, vw, vf, vl] 26 (0, 0))) := (HB4.out.block E lb3).trans ((HB3.out.block E lb2).trans ((HB2.out.block E lb1).trans ((HB1.out.block E lb).trans HX0.out)))
    have HY4 : Hid (w4.heap[Y]? = some (.cells #[.slice an x.nm.length cn, .slice av x.wd.length cv, .slice af x.fi.length cf, .slice al (cutL t x.li).length cl] 26 (0, 0))) := (HB4.out.block Y ly3).trans ((HB3.out.block Y ly2).trans ((HB2.out.block Y ly).trans HY1.out))
    have lb4 := Nat.lt_of_lt_of_le lb3 HB4.out.size
    have ly4 := Nat.lt_of_lt_of_le ly3 HB4.out.size
    have HV4 : Hid (StrAt w4 (.slice ar x.fi.length cr) (atL t x.fi x.li)) := (HV2.out.below HB3.out).below HB4.out
    clear lb lb1 lb2 lb3 ly ly2 ly3
    have HBw : Hid (Below w.heap.size w w4) := bel HB0.out (bel HB1.out (bel HB2.out (bel HB3.out HB4.out)))
    clear HB0 HB1 HB2 HB3 HB4 HX0 HA0 HA3 HC1 HY1 HV2
    obtain ⟨b0, b1, b2, b3⟩ := cells4 HX4.out
    obtain ⟨y0, y1, y2, y3⟩ := cells4 HY4.out
    go_cut [75] from 55 to 75 (fun s75 wy => s75 = .bool false ∧ Hid (Below w4.heap.size w4 wy))
    case first =>
      go_region_held (fun w' => w'.cell? ⟨E, 0, none⟩ = some vn ∧ w'.cell? ⟨E, 1, none⟩ = some vw ∧ w'.cell? ⟨E, 2, none⟩ = some vf ∧ w'.cell? ⟨E, 3, none⟩ = some vl ∧ w'.cell? ⟨Y, 0, none⟩ = some (.slice an x.nm.length cn) ∧ w'.cell? ⟨Y, 1, none⟩ = some (.slice av x.wd.length cv) ∧ w'.cell? ⟨Y, 2, none⟩ = some (.slice af x.fi.length cf) ∧ w'.cell? ⟨Y, 3, none⟩ = some (.slice al (cutL t x.li).length cl)) (go_keep) (first
        | (go_at_call 16; refine (HA4.out.until t).mono ?_; rintro e w5 ⟨ul, rfl, HU5, hb5⟩; have HB5 : Hid (Below w4.drew.heap.size w4.drew w5) := hb5; clear hb5; obtain ⟨b0', b1', b2', b3'⟩ := cells4 ((HB5.out.block E lb4).trans HX4.out); obtain ⟨y0', y1', y2', y3'⟩ := cells4 ((HB5.out.block Y ly4).trans HY4.out))
        | (go_at_call 15; refine ((HC4.out.below HB5.out).same HU5.out).mono ?_; rintro e w6 ⟨rfl, hb6⟩; have HB6 : Hid (Below w5.heap.size w5 w6) := hb6; clear hb6; obtain ⟨b0'', b1'', b2'', b3''⟩ := cells4 ((HB6.out.block E (Nat.lt_of_lt_of_le lb4 HB5.out.size)).trans ((HB5.out.block E lb4).trans HX4.out)); obtain ⟨y0'', y1'', y2'', y3''⟩ := cells4 ((HB6.out.block Y (Nat.lt_of_lt_of_le ly4 HB5.out.size)).trans ((HB5.out.block Y ly4).trans HY4.out))))
      all_goals (
        go_wp2_with fail
        go_meet
        exact ⟨rfl, belX HB5.out HB6.out⟩)
    case rest =>
      obtain ⟨rfl, HBy⟩ := hcut
      have HVc : Hid (StrAt wc (.slice ar x.fi.length cr) (atL t x.fi x.li)) := HV4.out.below HBy.out
      have HSc : Hid (StrAt wc (.slice aq x.fi.length cq) (atL t x.fi x.li)) := (HS4.out).below HBy.out
      have HLl : Hid ((atL t x.fi x.li).length = x.fi.length) := at_len _ _ _
      have HBc : Hid (Below w.heap.size w wc) := bel HBw.out HBy.out
      clear HBw HBy HV4 HS4 HX4 HY4 HA4 HC4 b0 b1 b2 b3 y0 y1 y2 y3 lb4 ly4
      generalize atL t x.fi x.li = l at *
      go_wp2_with fail
      go_loopg [10] x.fi.length (fun g s wr => ∃ i : Nat, i ≤ x.fi.length ∧ g = x.fi.length - i ∧ s = .int .i64 i ∧ Hid (Below wc.heap.size wc wr))
      case atStart => exact ⟨0, Nat.zero_le _, rfl, rfl, Below.refl _ _⟩
      case round =>
        obtain ⟨i, hi, rfl, rfl, HBq⟩ := hrel
        obtain ⟨wq, hwq⟩ : ∃ wq, wq = wr := ⟨_, rfl⟩
        rw [← hwq] at HBq ⊢
        clear hwq
        by_cases hin : i < x.fi.length
        · obtain ⟨g1, o1, q1, hg1, e1⟩ := (HVc.out.below HBq.out).at_ i (by rw [HLl.out]; exact hin)
          obtain ⟨g2, o2, q2, hg2, e2⟩ := (HSc.out.below HBq.out).at_ i (by rw [HLl.out]; exact hin)
          subst q1 q2
          have i0 : (0 : Int) ≤ (i : Int) := by omega
          have i1 : (i : Int) < (x.fi.length : Int) := by omega
          have hz' := eq_listV (sA l i)
          generalize sA l i = z at *
          go_wp2_with fail
          go_quiet (fail)
          go_wp2_with fail
          go_roundg (x.fi.length - (i + 1))
          case measure => omega
          case rel => exact ⟨i + 1, hin, rfl, wrap_succ hin (Nat.le_trans HLn.out (by decide)), bdn HBq.out _⟩
        · have i5 : ¬ (i : Int) < (x.fi.length : Int) := by omega
          clear hin
          go_wp2_with (first
            | (go_at_call 11; refine (HP.out.aw _).mono ?_; rintro e w9 ⟨rfl, hb9⟩))
          go_ret
          exact ⟨rfl, bel HBc.out (bel HBq.out hb9)⟩
end Go.Proofs.Ytfefgldngkpgjaa
