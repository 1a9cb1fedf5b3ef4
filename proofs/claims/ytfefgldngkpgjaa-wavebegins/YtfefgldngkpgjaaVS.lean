/- Layer 18: WaveBegins, walked over what the program's functions tell. -/
import Derived.Test.YtfefgldngkpgjaaVR
import Derived.Deep.RegionHeld3
namespace Go.Proofs.Ytfefgldngkpgjaa
set_option maxRecDepth 100000
open Go.RowKit Lg Nl Go.Maps Wf
set_option linter.unusedVariables false
set_option linter.unusedSimpArgs false

theorem Wi.beg {w : World} {vn vw vf vl un uw uf ul : Value} {x y : Wv} {m n b : Bool} (P : PC) (h : Wi w vn vw vf vl x) (h2 : Wi w un uw uf ul y) (hm : mayW x = m) (hn : mayW y = n) (hb : begB x y = b) : Calls Try.prog 17 #[.agg #[vn, vw, vf, vl], .agg #[un, uw, uf, ul]] w fun e w' => e = .returned (.bool (m && n && b)) ∧ Below w.heap.size w w' := by
  subst hm hn hb
  exact P.be x y vn vw vf vl un uw uf ul w h.a h2.a h.z h2.z h.b h2.b
theorem Wi.rbeg {w : World} {vn vw vf vl un uw uf ul : Value} {x y : Wv} {b : Bool} (h : Wi w vn vw vf vl x) (h2 : Wi w un uw uf ul y) (hb : begB x y = b) : Calls Try.prog 18 #[.agg #[vn, vw, vf, vl], .agg #[un, uw, uf, ul], .bool true] w fun e w' => e = .returned (.bool b) ∧ Below w.heap.size w w' := by
  subst hb
  exact begins_c x y vn vw vf vl un uw uf ul w h.a h2.a h.b
theorem bel2 {w a b : World} (h : Below w.heap.size w a) (k : Below a.heap.size a b) : Below w.heap.size w b := bel h k
theorem Wi.shape {w : World} {vn vw vf vl : Value} {x : Wv} (h : Wi w vn vw vf vl x) : ∃ an cn av cv af cf al cl, vn = .slice an x.nm.length cn ∧ vw = .slice av x.wd.length cv ∧ vf = .slice af x.fi.length cf ∧ vl = .slice al x.li.length cl := by
  obtain ⟨an, cn, rfl, _, _⟩ := h.a.nm
  obtain ⟨av, cv, rfl, _, _⟩ := h.a.wd
  obtain ⟨af, cf, rfl, _, _⟩ := h.a.fi
  obtain ⟨al, cl, rfl, _, _⟩ := h.a.li
  exact ⟨_, _, _, _, _, _, _, _, rfl, rfl, rfl, rfl⟩
set_option maxHeartbeats 4000000 in
set_option maxRecDepth 1000000 in
theorem WaveBegins_c (P : PC) (x y : Wv) (vn vw vf vl un uw uf ul : Value) (t : Int) (w : World) (hx : Wi w vn vw vf vl x) (hy : Wi w un uw uf ul y) : Calls Try.prog 5 #[.agg #[vn, vw, vf, vl], .agg #[un, uw, uf, ul], .int .i64 t] w fun e w' => e = .returned (.bool true) ∧ Below w.heap.size w w' := by
  have HP : Hid PC := P
  have HA : Hid (Wi w vn vw vf vl x) := hx
  have HC : Hid (Wi w un uw uf ul y) := hy
  clear P hx hy
  obtain ⟨W0, hW0⟩ : ∃ W0, W0 = (w.alloc (.cells #[vn, vw, vf, vl] 26)).alloc (.cells #[un, uw, uf, ul] 26) := ⟨_, rfl⟩
  have HB0 : Hid (Below w.heap.size w W0) := by rw [hW0]; exact belA (belA (Below.refl _ _) _) _
  have HX0 : Hid (W0.heap[w.heap.size]? = some (.cells #[vn, vw, vf, vl] 26 (0, 0))) := by rw [hW0]; exact (alOld (by rw [size_al]; omega)).trans (alAt rfl)
  have HY0 : Hid (W0.heap[w.heap.size + 1]? = some (.cells #[un, uw, uf, ul] 26 (0, 0))) := by rw [hW0]; exact alAt (size_al _ _)
  have HA0 : Hid (Wi W0.drew vn vw vf vl x) := (HA.out.below HB0.out).below (Below.refl _ _).drew
  have HC0 : Hid (Wi W0.drew un uw uf ul y) := (HC.out.below HB0.out).below (Below.refl _ _).drew
  have HC0b : Hid (Wi W0 un uw uf ul y) := HC.out.below HB0.out
  go_enter Try.func5, Try.ntmps5
  go_upto_region 1 with fail
  rw [← hW0]
  clear hW0 HA HC
  obtain ⟨b0, b1, b2, b3⟩ := cells4 HX0.out
  have lb := hLt HX0.out
  obtain ⟨d0, d1, d2, d3⟩ := cells4 HY0.out
  have ld := hLt HY0.out
  obtain ⟨E, hE⟩ : ∃ E, E = w.heap.size := ⟨_, rfl⟩
  rw [← hE] at HX0 HY0 b0 b1 b2 b3 lb d0 d1 d2 d3 ld ⊢
  clear hE
  obtain ⟨F, hF⟩ : ∃ F, F = E + 1 := ⟨_, rfl⟩
  rw [← hF] at HY0 d0 d1 d2 d3 ld ⊢
  clear hF
  go_cut [23] from 9 to 23 (fun s23 wy => s23 = .bool false ∧ Hid (Below W0.heap.size W0 wy))
  case first =>
    obtain ⟨m, hm⟩ : ∃ m, mayW x = m := ⟨_, rfl⟩
    obtain ⟨n, hn⟩ : ∃ n, mayW y = n := ⟨_, rfl⟩
    obtain ⟨b, hb⟩ : ∃ b, begB x y = b := ⟨_, rfl⟩
    have HM : Hid (mayW x = m) := hm
    have HN : Hid (mayW y = n) := hn
    have HB : Hid (begB x y = b) := hb
    clear hm hn hb
    cases m
    · go_region_with (first
        | (go_at_call 10; refine ((HA0.out.below HB1.out).may HM.out).mono ?_; rintro e w2 ⟨rfl, hb2⟩; have HB2 : Hid (Below w1.heap.size w1 w2) := hb2; clear hb2; obtain ⟨b0'', b1'', b2'', b3''⟩ := cells4 ((HB2.out.block E (Nat.lt_of_lt_of_le lb HB1.out.size)).trans ((HB1.out.block E lb).trans HX0.out)); obtain ⟨d0'', d1'', d2'', d3''⟩ := cells4 ((HB2.out.block F (Nat.lt_of_lt_of_le ld HB1.out.size)).trans ((HB1.out.block F ld).trans HY0.out)))
        | (go_at_call 17; refine (HA0.out.beg HP.out HC0.out HM.out HN.out HB.out).mono ?_; rintro e w1 ⟨rfl, hb1⟩; have HB1 : Hid (Below W0.drew.heap.size W0.drew w1) := hb1; clear hb1; obtain ⟨b0', b1', b2', b3'⟩ := cells4 ((HB1.out.block E lb).trans HX0.out); obtain ⟨d0', d1', d2', d3'⟩ := cells4 ((HB1.out.block F ld).trans HY0.out)))
      all_goals (
        go_wp2_with fail
        go_meet
        exact ⟨rfl, belX HB1.out HB2.out⟩)
    · cases n
      · go_region_with (first
          | (go_at_call 10; refine (((HC0.out.below HB1.out).below HB2.out).may HN.out).mono ?_; rintro e w3 ⟨rfl, hb3⟩; have HB3 : Hid (Below w2.heap.size w2 w3) := hb3; clear hb3; obtain ⟨b0''', b1''', b2''', b3'''⟩ := cells4 ((HB3.out.block E (Nat.lt_of_lt_of_le (Nat.lt_of_lt_of_le lb HB1.out.size) HB2.out.size)).trans ((HB2.out.block E (Nat.lt_of_lt_of_le lb HB1.out.size)).trans ((HB1.out.block E lb).trans HX0.out))); obtain ⟨d0''', d1''', d2''', d3'''⟩ := cells4 ((HB3.out.block F (Nat.lt_of_lt_of_le (Nat.lt_of_lt_of_le ld HB1.out.size) HB2.out.size)).trans ((HB2.out.block F (Nat.lt_of_lt_of_le ld HB1.out.size)).trans ((HB1.out.block F ld).trans HY0.out))))
          | (go_at_call 10; refine ((HA0.out.below HB1.out).may HM.out).mono ?_; rintro e w2 ⟨rfl, hb2⟩; have HB2 : Hid (Below w1.heap.size w1 w2) := hb2; clear hb2; obtain ⟨b0'', b1'', b2'', b3''⟩ := cells4 ((HB2.out.block E (Nat.lt_of_lt_of_le lb HB1.out.size)).trans ((HB1.out.block E lb).trans HX0.out)); obtain ⟨d0'', d1'', d2'', d3''⟩ := cells4 ((HB2.out.block F (Nat.lt_of_lt_of_le ld HB1.out.size)).trans ((HB1.out.block F ld).trans HY0.out)))
          | (go_at_call 17; refine (HA0.out.beg HP.out HC0.out HM.out HN.out HB.out).mono ?_; rintro e w1 ⟨rfl, hb1⟩; have HB1 : Hid (Below W0.drew.heap.size W0.drew w1) := hb1; clear hb1; obtain ⟨b0', b1', b2', b3'⟩ := cells4 ((HB1.out.block E lb).trans HX0.out); obtain ⟨d0', d1', d2', d3'⟩ := cells4 ((HB1.out.block F ld).trans HY0.out)))
        all_goals (
          go_wp2_with fail
          go_meet
          exact ⟨rfl, belX HB1.out (bel2 HB2.out HB3.out)⟩)
      · cases b
        · go_region_held3 (fun w' => w'.cell? ⟨E, 0, none⟩ = some vn ∧ w'.cell? ⟨E, 1, none⟩ = some vw ∧ w'.cell? ⟨E, 2, none⟩ = some vf ∧ w'.cell? ⟨E, 3, none⟩ = some vl ∧ w'.cell? ⟨F, 0, none⟩ = some un ∧ w'.cell? ⟨F, 1, none⟩ = some uw ∧ w'.cell? ⟨F, 2, none⟩ = some uf ∧ w'.cell? ⟨F, 3, none⟩ = some ul) (go_keep) (first
            | (go_at_call 18; refine ((((HA0.out.below HB1.out).below HB2.out).below HB3.out).rbeg (((HC0.out.below HB1.out).below HB2.out).below HB3.out) HB.out).mono ?_; rintro e w4 ⟨rfl, hb4⟩; have HB4 : Hid (Below w3.heap.size w3 w4) := hb4; clear hb4; obtain ⟨b0'''', b1'''', b2'''', b3''''⟩ := cells4 ((HB4.out.block E (Nat.lt_of_lt_of_le (Nat.lt_of_lt_of_le (Nat.lt_of_lt_of_le lb HB1.out.size) HB2.out.size) HB3.out.size)).trans ((HB3.out.block E (Nat.lt_of_lt_of_le (Nat.lt_of_lt_of_le lb HB1.out.size) HB2.out.size)).trans ((HB2.out.block E (Nat.lt_of_lt_of_le lb HB1.out.size)).trans ((HB1.out.block E lb).trans HX0.out)))); obtain ⟨d0'''', d1'''', d2'''', d3''''⟩ := cells4 ((HB4.out.block F (Nat.lt_of_lt_of_le (Nat.lt_of_lt_of_le (Nat.lt_of_lt_of_le ld HB1.out.size) HB2.out.size) HB3.out.size)).trans ((HB3.out.block F (Nat.lt_of_lt_of_le (Nat.lt_of_lt_of_le ld HB1.out.size) HB2.out.size)).trans ((HB2.out.block F (Nat.lt_of_lt_of_le ld HB1.out.size)).trans ((HB1.out.block F ld).trans HY0.out)))))
            | (go_at_call 10; refine (((HC0.out.below HB1.out).below HB2.out).may HN.out).mono ?_; rintro e w3 ⟨rfl, hb3⟩; have HB3 : Hid (Below w2.heap.size w2 w3) := hb3; clear hb3; obtain ⟨b0''', b1''', b2''', b3'''⟩ := cells4 ((HB3.out.block E (Nat.lt_of_lt_of_le (Nat.lt_of_lt_of_le lb HB1.out.size) HB2.out.size)).trans ((HB2.out.block E (Nat.lt_of_lt_of_le lb HB1.out.size)).trans ((HB1.out.block E lb).trans HX0.out))); obtain ⟨d0''', d1''', d2''', d3'''⟩ := cells4 ((HB3.out.block F (Nat.lt_of_lt_of_le (Nat.lt_of_lt_of_le ld HB1.out.size) HB2.out.size)).trans ((HB2.out.block F (Nat.lt_of_lt_of_le ld HB1.out.size)).trans ((HB1.out.block F ld).trans HY0.out))))
            | (go_at_call 10; refine ((HA0.out.below HB1.out).may HM.out).mono ?_; rintro e w2 ⟨rfl, hb2⟩; have HB2 : Hid (Below w1.heap.size w1 w2) := hb2; clear hb2; obtain ⟨b0'', b1'', b2'', b3''⟩ := cells4 ((HB2.out.block E (Nat.lt_of_lt_of_le lb HB1.out.size)).trans ((HB1.out.block E lb).trans HX0.out)); obtain ⟨d0'', d1'', d2'', d3''⟩ := cells4 ((HB2.out.block F (Nat.lt_of_lt_of_le ld HB1.out.size)).trans ((HB1.out.block F ld).trans HY0.out)))
            | (go_at_call 17; refine (HA0.out.beg HP.out HC0.out HM.out HN.out HB.out).mono ?_; rintro e w1 ⟨rfl, hb1⟩; have HB1 : Hid (Below W0.drew.heap.size W0.drew w1) := hb1; clear hb1; obtain ⟨b0', b1', b2', b3'⟩ := cells4 ((HB1.out.block E lb).trans HX0.out); obtain ⟨d0', d1', d2', d3'⟩ := cells4 ((HB1.out.block F ld).trans HY0.out)))
          all_goals (
            go_wp2_with fail
            go_meet
            exact ⟨rfl, belX HB1.out (bel2 HB2.out (bel2 HB3.out HB4.out))⟩)
        · go_region_held3 (fun w' => w'.cell? ⟨E, 0, none⟩ = some vn ∧ w'.cell? ⟨E, 1, none⟩ = some vw ∧ w'.cell? ⟨E, 2, none⟩ = some vf ∧ w'.cell? ⟨E, 3, none⟩ = some vl ∧ w'.cell? ⟨F, 0, none⟩ = some un ∧ w'.cell? ⟨F, 1, none⟩ = some uw ∧ w'.cell? ⟨F, 2, none⟩ = some uf ∧ w'.cell? ⟨F, 3, none⟩ = some ul) (go_keep) (first
            | (go_at_call 18; refine ((((HA0.out.below HB1.out).below HB2.out).below HB3.out).rbeg (((HC0.out.below HB1.out).below HB2.out).below HB3.out) HB.out).mono ?_; rintro e w4 ⟨rfl, hb4⟩; have HB4 : Hid (Below w3.heap.size w3 w4) := hb4; clear hb4; obtain ⟨b0'''', b1'''', b2'''', b3''''⟩ := cells4 ((HB4.out.block E (Nat.lt_of_lt_of_le (Nat.lt_of_lt_of_le (Nat.lt_of_lt_of_le lb HB1.out.size) HB2.out.size) HB3.out.size)).trans ((HB3.out.block E (Nat.lt_of_lt_of_le (Nat.lt_of_lt_of_le lb HB1.out.size) HB2.out.size)).trans ((HB2.out.block E (Nat.lt_of_lt_of_le lb HB1.out.size)).trans ((HB1.out.block E lb).trans HX0.out)))); obtain ⟨d0'''', d1'''', d2'''', d3''''⟩ := cells4 ((HB4.out.block F (Nat.lt_of_lt_of_le (Nat.lt_of_lt_of_le (Nat.lt_of_lt_of_le ld HB1.out.size) HB2.out.size) HB3.out.size)).trans ((HB3.out.block F (Nat.lt_of_lt_of_le (Nat.lt_of_lt_of_le ld HB1.out.size) HB2.out.size)).trans ((HB2.out.block F (Nat.lt_of_lt_of_le ld HB1.out.size)).trans ((HB1.out.block F ld).trans HY0.out)))))
            | (go_at_call 10; refine (((HC0.out.below HB1.out).below HB2.out).may HN.out).mono ?_; rintro e w3 ⟨rfl, hb3⟩; have HB3 : Hid (Below w2.heap.size w2 w3) := hb3; clear hb3; obtain ⟨b0''', b1''', b2''', b3'''⟩ := cells4 ((HB3.out.block E (Nat.lt_of_lt_of_le (Nat.lt_of_lt_of_le lb HB1.out.size) HB2.out.size)).trans ((HB2.out.block E (Nat.lt_of_lt_of_le lb HB1.out.size)).trans ((HB1.out.block E lb).trans HX0.out))); obtain ⟨d0''', d1''', d2''', d3'''⟩ := cells4 ((HB3.out.block F (Nat.lt_of_lt_of_le (Nat.lt_of_lt_of_le ld HB1.out.size) HB2.out.size)).trans ((HB2.out.block F (Nat.lt_of_lt_of_le ld HB1.out.size)).trans ((HB1.out.block F ld).trans HY0.out))))
            | (go_at_call 10; refine ((HA0.out.below HB1.out).may HM.out).mono ?_; rintro e w2 ⟨rfl, hb2⟩; have HB2 : Hid (Below w1.heap.size w1 w2) := hb2; clear hb2; obtain ⟨b0'', b1'', b2'', b3''⟩ := cells4 ((HB2.out.block E (Nat.lt_of_lt_of_le lb HB1.out.size)).trans ((HB1.out.block E lb).trans HX0.out)); obtain ⟨d0'', d1'', d2'', d3''⟩ := cells4 ((HB2.out.block F (Nat.lt_of_lt_of_le ld HB1.out.size)).trans ((HB1.out.block F ld).trans HY0.out)))
            | (go_at_call 17; refine (HA0.out.beg HP.out HC0.out HM.out HN.out HB.out).mono ?_; rintro e w1 ⟨rfl, hb1⟩; have HB1 : Hid (Below W0.drew.heap.size W0.drew w1) := hb1; clear hb1; obtain ⟨b0', b1', b2', b3'⟩ := cells4 ((HB1.out.block E lb).trans HX0.out); obtain ⟨d0', d1', d2', d3'⟩ := cells4 ((HB1.out.block F ld).trans HY0.out)))
          all_goals (
            go_wp2_with fail
            go_meet
            exact ⟨rfl, belX HB1.out (bel2 HB2.out (bel2 HB3.out HB4.out))⟩)
  case rest =>
    obtain ⟨rfl, HBc⟩ := hcut
    clear b0 b1 b2 b3 d0 d1 d2 d3
    have HC1 : Hid (Wi wc un uw uf ul y) := HC0b.out.below HBc.out
    obtain ⟨d0, d1, d2, d3⟩ := cells4 ((HBc.out.block F ld).trans HY0.out)
    have ld1 := Nat.lt_of_lt_of_le ld HBc.out.size
    have HY1 : Hid (wc.heap[F]? = some (.cells #[un, uw, uf, ul] 26 (0, 0))) := (HBc.out.block F ld).trans HY0.out
    cases ho : okT y t
    · have HO : Hid (okT y t = false) := ho
      clear ho
      go_upto_region 4 with (first
        | (go_at_call 12; refine (HC1.out.cut_no HP.out HO.out).mono ?_; rintro e w1 ⟨an, cn, av, cv, af, cf, al, cl, rfl, hb1⟩))
      go_wp2_with (first
        | (go_at_call 11; refine (HP.out.aw _).mono ?_; rintro e w4 ⟨rfl, hb4⟩))
      go_ret
      exact ⟨rfl, bel HB0.out (bel HBc.out (bel (belA hb1 _) hb4))⟩
    · have HO : Hid (okT y t = true) := ho
      have HM : Hid (mayW y = true) := by unfold okT at ho; rw [Bool.and_eq_true] at ho; exact ho.1
      clear ho
      go_upto_region 4 with (first
        | (go_at_call 12; refine (HC1.out.cut_yes HP.out HO.out).mono ?_; rintro e w1 ⟨an, cn, av, cv, af, cf, al, cl, rfl, HW1, hb1⟩))
      obtain ⟨W1, hW1⟩ : ∃ W1, W1 = w1.alloc (.cells #[.slice an y.nm.length cn, .slice av y.wd.length cv, .slice af y.fi.length cf, .slice al (cutL t y.li).length cl] 26) := ⟨_, rfl⟩
      rw [← hW1]
      have HB1 : Hid (Below wc.heap.size wc W1) := by rw [hW1]; exact belA hb1 _
      have HD1 : Hid (Wi W1 (.slice an y.nm.length cn) (.slice av y.wd.length cv) (.slice af y.fi.length cf) (.slice al (cutL t y.li).length cl) (cutW t y)) := by rw [hW1]; exact HW1.out.below (belA (Below.refl _ _) _)
      have HZ1 : Hid (W1.heap[w1.heap.size]? = some (.cells #[.slice an y.nm.length cn, .slice av y.wd.length cv, .slice af y.fi.length cf, .slice al (cutL t y.li).length cl] 26 (0, 0))) := by rw [hW1]; exact alAt rfl
      clear hW1 hb1 d0 d1 d2 d3 HW1
      generalize w1.heap.size = Z at *
      obtain ⟨d0, d1, d2, d3⟩ := cells4 ((HB1.out.block F ld1).trans HY1.out)
      obtain ⟨z0, z1, z2, z3⟩ := cells4 HZ1.out
      have lz := hLt HZ1.out
      have ld2 := Nat.lt_of_lt_of_le ld1 HB1.out.size
      go_wp2_with (first
        | (go_at_call 17; refine (HD1.out.beg HP.out (HC1.out.below HB1.out) (may_cut t HM.out) HM.out ((begB_iff _ _).2 (beg_cut t HM.out))).mono ?_; rintro e w3 ⟨rfl, hb3⟩)
        | (go_at_call 11; refine (HP.out.aw _).mono ?_; rintro e w4 ⟨rfl, hb4⟩))
      go_ret
      exact ⟨rfl, bel HB0.out (bel HBc.out (bel HB1.out (bel hb3 hb4)))⟩
end Go.Proofs.Ytfefgldngkpgjaa
