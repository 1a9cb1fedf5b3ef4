/- Layer 18: WaveSteps, walked over what the program's functions tell. -/
import Derived.Test.YtfefgldngkpgjaaVR
namespace Go.Proofs.Ytfefgldngkpgjaa
set_option maxRecDepth 100000
open Go.RowKit Lg Nl Go.Maps Wf
set_option linter.unusedVariables false
set_option linter.unusedSimpArgs false

theorem okT_yes {x : Wv} {t : Int} (h : mayW x = true) (h0 : 0 ≤ t) : okT x t = true := by unfold okT; rw [h, decide_eq_true h0]; rfl
theorem cutW_cut (a b : Int) (x : Wv) : cutW b (cutW a x) = cutW (min a b) x := by
  show Wv.mk x.nm x.wd x.fi (cutL b (cutL a x.li)) = Wv.mk x.nm x.wd x.fi (cutL (min a b) x.li)
  rw [cut_cut]
theorem at_same {x : Wv} (a : Int) (h : mayW x = true) : atL 4611686018427387903 (cutW (a + 1) x).fi (cutW (a + 1) x).li = atL a x.fi x.li :=
  at_cut a x.li x.fi fun c hc => (ls_mem x.wd x.li none x.fi (may_parts h).2.2 c hc).2.2.2
theorem Wi.at_cut_yes {w : World} {vn vw vf vl : Value} {x : Wv} {t s : Int} (P : PC) (h : Wi w vn vw vf vl (cutW s x)) (ho : okT (cutW s x) t = true) : Calls Try.prog 13 #[.agg #[vn, vw, vf, vl], .int .i64 t] w fun e w' => ∃ a c, e = .returned (.tuple #[.slice a x.fi.length c, .int .i64 0]) ∧ Hid (StrAt w' (.slice a x.fi.length c) (atL t (cutW s x).fi (cutW s x).li)) ∧ Below w.heap.size w w' := h.at_yes P ho
/-- the times that are looked at -/
structure Tm (a b : Int) : Prop where
  a0 : 0 ≤ a
  b0 : 0 ≤ b
  a1 : a ≤ 1152921504606846976
theorem Tm.wr {a b : Int} (h : Tm a b) : wrap64 (a + 1) = a + 1 := by have := h.a0; have := h.a1; unfold wrap64; omega
theorem Tm.mn {a b : Int} (h : Tm a b) : 0 ≤ min a b := by have := h.a0; have := h.b0; omega
theorem Tm.s {a b : Int} (h : Tm a b) : 0 ≤ a + 1 := by have := h.a0; omega
theorem tm_big : (0 : Int) ≤ 4611686018427387903 := by decide
set_option maxHeartbeats 4000000 in
set_option maxRecDepth 1000000 in
theorem WaveSteps_c (P : PC) (x : Wv) (vn vw vf vl : Value) (a b : Int) (w : World) (hx : Wi w vn vw vf vl x) : Calls Try.prog 8 #[.agg #[vn, vw, vf, vl], .int .i64 a, .int .i64 b] w fun e w' => e = .returned (.bool true) ∧ Below w.heap.size w w' := by
  have HP : Hid PC := P
  have HA : Hid (Wi w vn vw vf vl x) := hx
  clear P hx
  obtain ⟨W0, hW0⟩ : ∃ W0, W0 = w.alloc (.cells #[vn, vw, vf, vl] 26) := ⟨_, rfl⟩
  have HB0 : Hid (Below w.heap.size w W0) := by rw [hW0]; exact belA (Below.refl _ _) _
  have HX0 : Hid (W0.heap[w.heap.size]? = some (.cells #[vn, vw, vf, vl] 26 (0, 0))) := by rw [hW0]; exact alAt rfl
  have HA0 : Hid (Wi W0 vn vw vf vl x) := HA.out.below HB0.out
  go_enter Try.func8, Try.ntmps8
  go_upto_region 1 with fail
  rw [← hW0]
  clear hW0 HA
  obtain ⟨b0, b1, b2, b3⟩ := cells4 HX0.out
  have lb := hLt HX0.out
  obtain ⟨E, hE⟩ : ∃ E, E = w.heap.size := ⟨_, rfl⟩
  rw [← hE] at HX0 b0 b1 b2 b3 lb ⊢
  clear hE
  cases hm : mayW x
  · have HM : Hid (mayW x = false) := hm
    clear hm
    go_wp2_with (first
      | (go_at_call 10; refine (HA0.out.may HM.out).mono ?_; rintro e w1 ⟨rfl, hb1⟩)
      | (go_at_call 11; refine (HP.out.aw _).mono ?_; rintro e w4 ⟨rfl, hb4⟩))
    go_ret
    exact ⟨rfl, bel HB0.out (bel hb1 hb4)⟩
  have HM : Hid (mayW x = true) := hm
  clear hm
  by_cases r1 : a < 0
  · have r1' : decide (a < 0) = true := decide_eq_true r1
    clear r1
    go_wp2_with (first
      | (go_at_call 10; refine (HA0.out.may HM.out).mono ?_; rintro e w1 ⟨rfl, hb1⟩)
      | (go_at_call 11; refine (HP.out.aw _).mono ?_; rintro e w4 ⟨rfl, hb4⟩))
    go_ret
    exact ⟨rfl, bel HB0.out (bel hb1 hb4)⟩
  by_cases r2 : b < 0
  · have r2' : decide (b < 0) = true := decide_eq_true r2
    have r1' : decide (a < 0) = false := decide_eq_false r1
    clear r1 r2
    go_wp2_with (first
      | (go_at_call 10; refine (HA0.out.may HM.out).mono ?_; rintro e w1 ⟨rfl, hb1⟩)
      | (go_at_call 11; refine (HP.out.aw _).mono ?_; rintro e w4 ⟨rfl, hb4⟩))
    go_ret
    exact ⟨rfl, bel HB0.out (bel hb1 hb4)⟩
  by_cases r3 : 1152921504606846976 < a
  · have r3' : decide (1152921504606846976 < a) = true := decide_eq_true r3
    have r1' : decide (a < 0) = false := decide_eq_false r1
    have r2' : decide (b < 0) = false := decide_eq_false r2
    clear r1 r2 r3
    go_wp2_with (first
      | (go_at_call 10; refine (HA0.out.may HM.out).mono ?_; rintro e w1 ⟨rfl, hb1⟩)
      | (go_at_call 11; refine (HP.out.aw _).mono ?_; rintro e w4 ⟨rfl, hb4⟩))
    go_ret
    exact ⟨rfl, bel HB0.out (bel hb1 hb4)⟩
  have HT : Hid (Tm a b) := ⟨by omega, by omega, by omega⟩
  have r1' : decide (a < 0) = false := decide_eq_false r1
  have r2' : decide (b < 0) = false := decide_eq_false r2
  have r3' : decide (1152921504606846976 < a) = false := decide_eq_false r3
  clear r1 r2 r3
  have HLn : Hid (x.fi.length ≤ 4096) := by have := may_len HM.out; show _ ≤ _; omega
  go_upto_region 3 with (first
    | (go_at_call 10; refine (HA0.out.may HM.out).mono ?_; rintro e w1 ⟨rfl, hb1⟩))
  clear r1' r2' r3' b0 b1 b2 b3
  have HA1 : Hid (Wi w1 vn vw vf vl x) := HA0.out.below hb1
  have HX1 : Hid (w1.heap[E]? = some (.cells #[vn, vw, vf, vl] 26 (0, 0))) := (hb1.block E lb).trans HX0.out
  have HBw : Hid (Below w.heap.size w w1) := bel HB0.out hb1
  clear hb1 HB0 HA0 HX0 lb
  obtain ⟨b0, b1, b2, b3⟩ := cells4 HX1.out
  have lb := hLt HX1.out
  -- x := Cut(w, a)
  go_upto_region 4 with (first
    | (go_at_call 12; refine (HA1.out.cut_yes HP.out (okT_yes HM.out HT.out.a0)).mono ?_; rintro e w2 ⟨an1, cn1, av1, cv1, af1, cf1, al1, cl1, rfl, HW2, hb2⟩))
  obtain ⟨W2, hW2⟩ : ∃ W2, W2 = w2.alloc (.cells #[.slice an1 x.nm.length cn1, .slice av1 x.wd.length cv1, .slice af1 x.fi.length cf1, .slice al1 (cutL a x.li).length cl1] 26) := ⟨_, rfl⟩
  rw [← hW2]
  have HB2 : Hid (Below w1.heap.size w1 W2) := by rw [hW2]; exact belA hb2 _
  have HC2 : Hid (Wi W2 (.slice an1 x.nm.length cn1) (.slice av1 x.wd.length cv1) (.slice af1 x.fi.length cf1) (.slice al1 (cutL a x.li).length cl1) (cutW a x)) := by rw [hW2]; exact HW2.out.below (belA (Below.refl _ _) _)
  have HY2 : Hid (W2.heap[w2.heap.size]? = some (.cells #[.slice an1 x.nm.length cn1, .slice av1 x.wd.length cv1, .slice af1 x.fi.length cf1, .slice al1 (cutL a x.li).length cl1] 26 (0, 0))) := by rw [hW2]; exact alAt rfl
  clear hW2 hb2 b0 b1 b2 b3 HW2
  generalize w2.heap.size = Y at *
  have HA2 : Hid (Wi W2 vn vw vf vl x) := HA1.out.below HB2.out
  have HX2 : Hid (W2.heap[E]? = some (.cells #[vn, vw, vf, vl] 26 (0, 0))) := (HB2.out.block E lb).trans HX1.out
  clear lb
  obtain ⟨b0, b1, b2, b3⟩ := cells4 HX2.out
  obtain ⟨y0, y1, y2, y3⟩ := cells4 HY2.out
  have lb := hLt HX2.out
  have ly := hLt HY2.out
  -- y := Cut(x, b)
  go_upto_region 5 with (first
    | (go_at_call 12; refine (HC2.out.cut_yes HP.out (okT_yes (may_cut a HM.out) HT.out.b0)).mono ?_; rintro e w3 ⟨an2, cn2, av2, cv2, af2, cf2, al2, cl2, rfl, HW3, hb3⟩))
  obtain ⟨W3, hW3⟩ : ∃ W3, W3 = w3.alloc (.cells #[.slice an2 x.nm.length cn2, .slice av2 x.wd.length cv2, .slice af2 x.fi.length cf2, .slice al2 (cutL b (cutL a x.li)).length cl2] 26) := ⟨_, rfl⟩
  change Code.wp _ _ _ _ (w3.alloc (.cells #[.slice an2 x.nm.length cn2, .slice av2 x.wd.length cv2, .slice af2 x.fi.length cf2, .slice al2 (cutL b (cutL a x.li)).length cl2] 26))
  rw [← hW3]
  have HB3 : Hid (Below W2.heap.size W2 W3) := by rw [hW3]; exact belA hb3 _
  have HC3 : Hid (Wi W3 (.slice an2 x.nm.length cn2) (.slice av2 x.wd.length cv2) (.slice af2 x.fi.length cf2) (.slice al2 (cutL b (cutL a x.li)).length cl2) (cutW b (cutW a x))) := by rw [hW3]; exact HW3.out.below (belA (Below.refl _ _) _)
  have HY3 : Hid (W3.heap[w3.heap.size]? = some (.cells #[.slice an2 x.nm.length cn2, .slice av2 x.wd.length cv2, .slice af2 x.fi.length cf2, .slice al2 (cutL b (cutL a x.li)).length cl2] 26 (0, 0))) := by rw [hW3]; exact alAt rfl
  clear hW3 hb3 b0 b1 b2 b3 HW3 y0 y1 y2 y3 ly
  generalize w3.heap.size = Y3 at *
  have HA3 : Hid (Wi W3 vn vw vf vl x) := HA2.out.below HB3.out
  have HX3 : Hid (W3.heap[E]? = some (.cells #[vn, vw, vf, vl] 26 (0, 0))) := (HB3.out.block E lb).trans HX2.out
  clear lb
  obtain ⟨b0, b1, b2, b3⟩ := cells4 HX3.out
  have lb := hLt HX3.out
  have ly := hLt HY3.out
  -- z := Cut(w, min(a, b))
  have HMo : Hid (okT x (if b < a then b else a) = true) := okT_yes HM.out (by have := HT.out.a0; have := HT.out.b0; split <;> omega)
  have HMc : Hid (cutW b (cutW a x) = cutW (if b < a then b else a) x) := by rw [cutW_cut]; show cutW (min a b) x = _; congr 1; split <;> omega
  go_upto_region 6 with (first
    | (go_at_call 12; refine (HA3.out.cut_yes HP.out HMo.out).mono ?_; rintro e w4 ⟨an3, cn3, av3, cv3, af3, cf3, al3, cl3, rfl, HW4, hb4⟩))
  generalize (if b < a then b else a) = mn at *
  obtain ⟨W4, hW4⟩ : ∃ W4, W4 = w4.alloc (.cells #[.slice an3 x.nm.length cn3, .slice av3 x.wd.length cv3, .slice af3 x.fi.length cf3, .slice al3 (cutL mn x.li).length cl3] 26) := ⟨_, rfl⟩
  rw [← hW4]
  have HB4 : Hid (Below W3.heap.size W3 W4) := by rw [hW4]; exact belA hb4 _
  have HC4 : Hid (Wi W4 (.slice an3 x.nm.length cn3) (.slice av3 x.wd.length cv3) (.slice af3 x.fi.length cf3) (.slice al3 (cutL mn x.li).length cl3) (cutW mn x)) := by rw [hW4]; exact HW4.out.below (belA (Below.refl _ _) _)
  have HY4 : Hid (W4.heap[w4.heap.size]? = some (.cells #[.slice an3 x.nm.length cn3, .slice av3 x.wd.length cv3, .slice af3 x.fi.length cf3, .slice al3 (cutL mn x.li).length cl3] 26 (0, 0))) := by rw [hW4]; exact alAt rfl
  clear hW4 hb4 b0 b1 b2 b3 HW4
  generalize w4.heap.size = Y4 at *
  have HA4 : Hid (Wi W4 vn vw vf vl x) := HA3.out.below HB4.out
  have HX4 : Hid (W4.heap[E]? = some (.cells #[vn, vw, vf, vl] 26 (0, 0))) := (HB4.out.block E lb).trans HX3.out
  obtain ⟨y0, y1, y2, y3⟩ := cells4 ((HB4.out.block Y3 ly).trans HY3.out)
  obtain ⟨z0, z1, z2, z3⟩ := cells4 HY4.out
  have ly4 := Nat.lt_of_lt_of_le ly HB4.out.size
  have lz4 := hLt HY4.out
  have HD4 : Hid (Wi W4 (.slice an2 x.nm.length cn2) (.slice av2 x.wd.length cv2) (.slice af2 x.fi.length cf2) (.slice al2 (cutL b (cutL a x.li)).length cl2) (cutW mn x)) := by have h := HC3.out.below HB4.out; rw [HMc.out] at h; exact h
  clear lb
  go_upto_region 8 with (first
    | (go_at_call 15; refine (HD4.out.same HC4.out).mono ?_; rintro e w5 ⟨rfl, hb5⟩))
  clear y0 y1 y2 y3 z0 z1 z2 z3
  have lb4 := hLt HX4.out
  have HA5 : Hid (Wi w5 vn vw vf vl x) := HA4.out.below hb5
  have HX5 : Hid (w5.heap[E]? = some (.cells #[vn, vw, vf, vl] 26 (0, 0))) := (hb5.block E lb4).trans HX4.out
  have HBw5 : Hid (Below w.heap.size w w5) := bel HBw.out (bel HB2.out (bel HB3.out (bel HB4.out hb5)))
  clear hb5 HBw HB2 HB3 HB4 HX1 HX2 HX3 HX4 HC2 HC3 HC4 HD4 HA1 HA2 HA3 HA4 HY2 HY3 HY4 ly ly4 lz4 lb4 HMo HMc
  obtain ⟨b0, b1, b2, b3⟩ := cells4 HX5.out
  have lb := hLt HX5.out
  go_upto_region 9 with (first
    | (go_at_call 13; refine (HA5.out.at_yes HP.out (okT_yes HM.out HT.out.a0)).mono ?_; rintro e w6 ⟨ar, cr, rfl, HV6, hb6⟩))
  clear b0 b1 b2 b3
  have HA6 : Hid (Wi w6 vn vw vf vl x) := HA5.out.below hb6
  have HX6 : Hid (w6.heap[E]? = some (.cells #[vn, vw, vf, vl] 26 (0, 0))) := (hb6.block E lb).trans HX5.out
  have HBw6 : Hid (Below w.heap.size w w6) := bel HBw5.out hb6
  clear hb6 HBw5 HX5 HA5 lb
  obtain ⟨b0, b1, b2, b3⟩ := cells4 HX6.out
  have lb := hLt HX6.out
  have hwr : wrap64 (a + 1) = a + 1 := HT.out.wr
  go_upto_region 10 with (first
    | (go_at_call 12; refine (HA6.out.cut_yes HP.out (okT_yes HM.out HT.out.s)).mono ?_; rintro e w7 ⟨an4, cn4, av4, cv4, af4, cf4, al4, cl4, rfl, HW7, hb7⟩))
  obtain ⟨W7, hW7⟩ : ∃ W7, W7 = w7.alloc (.cells #[.slice an4 x.nm.length cn4, .slice av4 x.wd.length cv4, .slice af4 x.fi.length cf4, .slice al4 (cutL (a + 1) x.li).length cl4] 26) := ⟨_, rfl⟩
  rw [← hW7]
  have HB7 : Hid (Below w6.heap.size w6 W7) := by rw [hW7]; exact belA hb7 _
  have HC7 : Hid (Wi W7 (.slice an4 x.nm.length cn4) (.slice av4 x.wd.length cv4) (.slice af4 x.fi.length cf4) (.slice al4 (cutL (a + 1) x.li).length cl4) (cutW (a + 1) x)) := by rw [hW7]; exact HW7.out.below (belA (Below.refl _ _) _)
  have HY7 : Hid (W7.heap[w7.heap.size]? = some (.cells #[.slice an4 x.nm.length cn4, .slice av4 x.wd.length cv4, .slice af4 x.fi.length cf4, .slice al4 (cutL (a + 1) x.li).length cl4] 26 (0, 0))) := by rw [hW7]; exact alAt rfl
  clear hW7 hb7 b0 b1 b2 b3 HW7 hwr lb
  generalize w7.heap.size = Y7 at *
  have HV7 : Hid (StrAt W7 (.slice ar x.fi.length cr) (atL a x.fi x.li)) := HV6.out.below HB7.out
  obtain ⟨y0, y1, y2, y3⟩ := cells4 HY7.out
  have ly := hLt HY7.out
  go_upto_region 11 with (first
    | (go_at_call 13; refine (HC7.out.at_cut_yes HP.out (okT_yes (may_cut (a + 1) HM.out) tm_big)).mono ?_; rintro e w8 ⟨aq, cq, rfl, HS8, hb8⟩))
  clear y0 y1 y2 y3 ly
  have HS8' : Hid (StrAt w8 (.slice aq x.fi.length cq) (atL a x.fi x.li)) := by have h := HS8.out; rw [at_same a HM.out] at h; exact h
  have HV8 : Hid (StrAt w8 (.slice ar x.fi.length cr) (atL a x.fi x.li)) := HV7.out.below hb8
  have HLl : Hid ((atL a x.fi x.li).length = x.fi.length) := at_len _ _ _
  have HBc : Hid (Below w.heap.size w w8) := bel HBw6.out (bel HB7.out hb8)
  clear HS8 HV7 HV6 hb8 HB7 HBw6 HC7 HY7 HX6 HA6
  generalize atL a x.fi x.li = l at *
  go_wp2_with fail
  go_loopg [19] x.fi.length (fun g s wr => ∃ i : Nat, i ≤ x.fi.length ∧ g = x.fi.length - i ∧ s = .int .i64 i ∧ Hid (Below w8.heap.size w8 wr))
  case atStart => exact ⟨0, Nat.zero_le _, rfl, rfl, Below.refl _ _⟩
  case round =>
    obtain ⟨i, hi, rfl, rfl, HBq⟩ := hrel
    obtain ⟨wq, hwq⟩ : ∃ wq, wq = wr := ⟨_, rfl⟩
    rw [← hwq] at HBq ⊢
    clear hwq
    by_cases hin : i < x.fi.length
    · obtain ⟨g1, o1, q1, hg1, e1⟩ := (HV8.out.below HBq.out).at_ i (by rw [HLl.out]; exact hin)
      obtain ⟨g2, o2, q2, hg2, e2⟩ := (HS8'.out.below HBq.out).at_ i (by rw [HLl.out]; exact hin)
      subst q1 q2
      have i0 : (0 : Int) ≤ (i : Int) := by omega
      have i1 : (i : Int) < (x.fi.length : Int) := by omega
      have hz' := eq_listV (sA l i)
      generalize sA l i = z at *
      go_wp2_with fail
      go_quiet (fail)
      go_wp2_with fail
      go_roundg (x.fi.length - (i + 1))
      case measure => omega
      case rel => exact ⟨i + 1, hin, rfl, wrap_succ hin (Nat.le_trans HLn.out (by decide)), bdn HBq.out _⟩
    · have i5 : ¬ (i : Int) < (x.fi.length : Int) := by omega
      clear hin
      go_wp2_with (first
        | (go_at_call 11; refine (HP.out.aw _).mono ?_; rintro e w9 ⟨rfl, hb9⟩))
      go_ret
      exact ⟨rfl, bel HBc.out (bel HBq.out hb9)⟩
end Go.Proofs.Ytfefgldngkpgjaa
