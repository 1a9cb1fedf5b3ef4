/- Layer 18: WaveMerges, walked over what the program's functions tell. -/
import Derived.Test.YtfefgldngkpgjaaVG
namespace Go.Proofs.Ytfefgldngkpgjaa
set_option maxRecDepth 100000
open Go.RowKit Lg Nl Go.Maps Wf
set_option linter.unusedVariables false
set_option linter.unusedSimpArgs false

/-- parts that are handed in, and what is asked of them -/
structure Pi (w : World) (v : Value) (ps : List (List Ch)) : Prop where
  a : PsAt w v ps
  f : ps.flatten.length ≤ 1048576
  n : ps.length ≤ 1048576
  z : ∀ p ∈ ps, ∀ c ∈ p, c.v.size ≤ maxLen
theorem Pi.below {w w' : World} {v : Value} {ps : List (List Ch)} (h : Pi w v ps) (hb : Below w.heap.size w w') : Pi w' v ps := ⟨h.a.below hb, h.f, h.n, h.z⟩
theorem merge_len (ps : List (List Ch)) : (mergeL ps).length = ps.flatten.length := by
  unfold mergeL; rw [mrg_len, List.length_nil, Nat.zero_add]
theorem merge_mem {ps : List (List Ch)} {c : Ch} (h : c ∈ mergeL ps) : ∃ p ∈ ps, c ∈ p := by
  unfold mergeL at h
  rcases (mrg_mem _ _ _).1 h with h | h
  · cases h
  · exact List.mem_flatten.1 h
theorem Wi.want {w : World} {vn vw vf vl ul vp : Value} {x : Wv} {ps : List (List Ch)} (h : Wi w vn vw vf vl x) (hp : Pi w vp ps) (hc : ChAt w ul (mergeL ps)) : Wi w vn vw vf ul (withL x (mergeL ps)) := by
  have hl : (mergeL ps).length ≤ 1048576 := by rw [merge_len]; exact hp.f
  refine ⟨⟨h.a.nm, h.a.wd, h.a.fi, hc⟩, ⟨h.z.nm, h.z.fi, fun c hc => ?_, Nat.le_trans hl (by decide)⟩, ⟨h.b.nm, h.b.wd, h.b.fi, Nat.le_trans hl (by decide)⟩, Nat.le_trans hl (by decide)⟩
  obtain ⟨p, h1, h2⟩ := merge_mem hc
  exact hp.z p h1 c h2
theorem Wi.mrg_no {w : World} {vn vw vf vl vp : Value} {x : Wv} {ps : List (List Ch)} (hMe : MergeC) (h : Wi w vn vw vf vl x) (hp : Pi w vp ps) (ho : okM x ps = false) : Calls Try.prog 19 #[.agg #[vn, vw, vf, vl], vp] w fun e w' => ∃ an cn av cv af cf al cl, e = .returned (.tuple #[.agg #[.slice an 0 cn, .slice av 0 cv, .slice af 0 cf, .slice al 0 cl], .int .i64 1]) ∧ Below w.heap.size w w' := by
  refine (hMe x vn vw vf vl vp ps w h hp.a (Nat.le_trans hp.f (by decide)) (Nat.le_trans hp.n (by decide)) hp.z).mono ?_
  rintro e w' ⟨un, uw, uf, ul, rfl, hw, hb⟩
  rw [ho, if_neg (by decide)] at hw
  obtain ⟨an, cn, rfl, _, _⟩ := hw.out.nm
  obtain ⟨av, cv, rfl, _, _⟩ := hw.out.wd
  obtain ⟨af, cf, rfl, _, _⟩ := hw.out.fi
  obtain ⟨al, cl, rfl, _, _⟩ := hw.out.li
  exact ⟨an, cn, av, cv, af, cf, al, cl, by rw [ho]; rfl, hb⟩
theorem Wi.mrg_yes {w : World} {vn vw vf vl vp : Value} {x : Wv} {ps : List (List Ch)} (hMe : MergeC) (h : Wi w vn vw vf vl x) (hp : Pi w vp ps) (ho : okM x ps = true) : Calls Try.prog 19 #[.agg #[vn, vw, vf, vl], vp] w fun e w' => ∃ an cn av cv af cf al cl, e = .returned (.tuple #[.agg #[.slice an x.nm.length cn, .slice av x.wd.length cv, .slice af x.fi.length cf, .slice al (mergeL ps).length cl], .int .i64 0]) ∧ Hid (Wi w' (.slice an x.nm.length cn) (.slice av x.wd.length cv) (.slice af x.fi.length cf) (.slice al (mergeL ps).length cl) (withL x (mergeL ps))) ∧ Below w.heap.size w w' := by
  refine (hMe x vn vw vf vl vp ps w h hp.a (Nat.le_trans hp.f (by decide)) (Nat.le_trans hp.n (by decide)) hp.z).mono ?_
  rintro e w' ⟨un, uw, uf, ul, rfl, hw, hb⟩
  rw [ho, if_pos rfl] at hw
  have hw' : WvAt w' un uw uf ul (withL x (mergeL ps)) := hw.out
  obtain ⟨an, cn, rfl, _, _⟩ := hw.out.nm
  obtain ⟨av, cv, rfl, _, _⟩ := hw.out.wd
  obtain ⟨af, cf, rfl, _, _⟩ := hw.out.fi
  obtain ⟨al, cl, rfl, _, _⟩ := hw.out.li
  refine ⟨an, cn, av, cv, af, cf, al, cl, by rw [ho]; rfl, ?_, hb⟩
  have h2 := (h.below hb).want (hp.below hb) hw'.li
  exact ⟨hw', h2.z, h2.b, h2.l⟩
theorem Pi.merged {w : World} {v : Value} {ps : List (List Ch)} (h : Pi w v ps) (hl : ps.flatten.length ≤ 300) : Calls Try.prog 20 #[v] w fun e w' => ∃ a c, e = .returned (.slice a (mergeL ps).length c) ∧ Hid (w'.ownsRow w.heap.size 46 3 (.slice a (mergeL ps).length c) (mergeL ps).length (chs (mergeL ps))) ∧ Hid (Below w.heap.size w w') := merged_c ps v w h.a hl (Nat.le_trans h.n (by decide))
theorem cellSO {w : World} {a b : Addr} {v : Value} (h : a ≠ b) : (w.setCell a v).cell? b = w.cell? b := by first | exact World.cell?_setCell_other h | exact World.cell?_setCell_other _ _ _ _ h | exact World.cell?_setCell_other _ _ _ h
theorem cellSS {w : World} {a : Addr} {u v : Value} (h : w.cell? a = some u) : (w.setCell a v).cell? a = some v := by first | exact World.cell?_setCell_same h | exact World.cell?_setCell_same _ _ _ h
/-- how many changes parts have -/
def flN (ps : List (List Ch)) : Nat := ps.flatten.length
theorem wrap_add {n m k : Nat} (h : n + m ≤ k) (hk : k ≤ 1048576) : Value.int .i64 (wrap64 ((n : Int) + (m : Int))) = Value.int .i64 ((n + m : Nat) : Int) := by
  congr 1
  unfold wrap64
  omega
set_option maxHeartbeats 4000000 in
set_option maxRecDepth 1000000 in
theorem WaveMerges_c (P : PC) (hMe : MergeC) (x : Wv) (ps : List (List Ch)) (vn vw vf vl vp : Value) (w : World) (hx : Wi w vn vw vf vl x) (hp : Pi w vp ps) : Calls Try.prog 6 #[.agg #[vn, vw, vf, vl], vp] w fun e w' => e = .returned (.bool true) ∧ Below w.heap.size w w' := by
  have HP : Hid PC := P
  have HMe : Hid MergeC := hMe
  have HA : Hid (Wi w vn vw vf vl x) := hx
  have HPs : Hid (Pi w vp ps) := hp
  obtain ⟨ao, cap, hvp, _, _⟩ := hp.a
  subst hvp
  obtain ⟨an, cn, hvn, _, _⟩ := hx.a.nm
  obtain ⟨av, cv, hvw, _, _⟩ := hx.a.wd
  obtain ⟨af, cf, hvf, _, _⟩ := hx.a.fi
  obtain ⟨al, cl, hvl, _, _⟩ := hx.a.li
  subst hvn hvw hvf hvl
  clear P hx hMe hp
  obtain ⟨W0, hW0⟩ : ∃ W0, W0 = w.alloc (.cells #[.slice an x.nm.length cn, .slice av x.wd.length cv, .slice af x.fi.length cf, .slice al x.li.length cl] 26) := ⟨_, rfl⟩
  have HB0 : Hid (Below w.heap.size w W0) := by rw [hW0]; exact belA (Below.refl _ _) _
  have HX0 : Hid (W0.heap[w.heap.size]? = some (.cells #[.slice an x.nm.length cn, .slice av x.wd.length cv, .slice af x.fi.length cf, .slice al x.li.length cl] 26 (0, 0))) := by rw [hW0]; exact alAt rfl
  have HA0 : Hid (Wi W0 (.slice an x.nm.length cn) (.slice av x.wd.length cv) (.slice af x.fi.length cf) (.slice al x.li.length cl) x) := HA.out.below HB0.out
  have HP0 : Hid (Pi W0 (.slice ao ps.length cap) ps) := HPs.out.below HB0.out
  go_enter Try.func6, Try.ntmps6
  go_upto_region 1 with fail
  rw [← hW0]
  clear hW0 HA HPs
  have lb := hLt HX0.out
  obtain ⟨E, hE⟩ : ∃ E, E = w.heap.size := ⟨_, rfl⟩
  rw [← hE] at HX0 lb ⊢
  clear hE
  go_wp2_with fail
  go_loopg [5, 6] ps.length (fun g s5 s6 wr => ∃ i : Nat, i ≤ ps.length ∧ g = ps.length - i ∧ s5 = .int .i64 (flN (ps.take i) : Nat) ∧ s6 = .int .i64 i ∧ wr = W0)
  case atStart => exact ⟨0, Nat.zero_le _, rfl, rfl, rfl, rfl⟩
  case round =>
    obtain ⟨i, hi, rfl, rfl, rfl, hwr⟩ := hrel
    rw [hwr]
    clear hwr
    by_cases hin : i < ps.length
    · obtain ⟨gp, op, u, cu, hao, hgp, ep, HU⟩ := HP0.out.a.at_ i hin
      subst hao
      have i0 : (0 : Int) ≤ (i : Int) := by omega
      have i1 : (i : Int) < (ps.length : Int) := by omega
      have HNx : Hid (flN (ps.take (i + 1)) = flN (ps.take i) + ps[i].length) := by unfold flN; rw [flat_take hin, List.length_append]; exact rfl
      have HLe : Hid (flN (ps.take i) + ps[i].length ≤ ps.flatten.length) := flat_le hin
      clear HU
      generalize flN (ps.take i) = q at *
      generalize ps[i].length = r at *
      go_wp2_with fail
      go_roundg (ps.length - (i + 1))
      case measure => omega
      case rel => exact ⟨i + 1, hin, rfl, by rw [HNx.out]; exact wrap_add HLe.out HP0.out.f, wrap_succ hin (Nat.le_trans HP0.out.n (by decide)), rfl⟩
    · have i5 : ¬ (i : Int) < (ps.length : Int) := by omega
      have htk : ps.take i = ps := List.take_of_length_le (by omega)
      rw [htk]
      clear hin htk hi
      by_cases h3 : 300 < flN ps
      · have h3' : decide ((300 : Int) < (flN ps : Int)) = true := decide_eq_true (by omega)
        clear h3
        go_wp2_with (first
          | (go_at_call 11; refine (HP.out.aw _).mono ?_; rintro e w6 ⟨rfl, hb6⟩))
        go_ret
        exact ⟨rfl, bel HB0.out hb6⟩
      have h3' : decide ((300 : Int) < (flN ps : Int)) = false := decide_eq_false (by omega)
      have H3 : Hid (ps.flatten.length ≤ 300) := by show flN ps ≤ _; omega
      clear h3
      go_upto_region 8 with fail
      clear h3' i5
      obtain ⟨b0, b1, b2, b3⟩ := cells4 HX0.out
      cases ho : okM x ps
      · have HO : Hid (okM x ps = false) := ho
        clear ho
        go_upto_region 9 with (first
          | (go_at_call 19; refine (HA0.out.mrg_no HMe.out HP0.out HO.out).mono ?_; rintro e w1 ⟨an3, cn3, av3, cv3, af3, cf3, al3, cl3, rfl, hb1⟩))
        obtain ⟨W1, hW1⟩ : ∃ W1, W1 = w1.alloc (.cells #[.slice an3 0 cn3, .slice av3 0 cv3, .slice af3 0 cf3, .slice al3 0 cl3] 26) := ⟨_, rfl⟩
        rw [← hW1]
        have HB1 : Hid (Below W0.heap.size W0 W1) := by rw [hW1]; exact belA hb1 _
        have HY1 : Hid (W1.heap[w1.heap.size]? = some (.cells #[.slice an3 0 cn3, .slice av3 0 cv3, .slice af3 0 cf3, .slice al3 0 cl3] 26 (0, 0))) := by rw [hW1]; exact alAt rfl
        clear hW1 hb1 b0 b1 b2 b3
        generalize w1.heap.size = Y at *
        obtain ⟨b0, b1, b2, b3⟩ := cells4 ((HB1.out.block E lb).trans HX0.out)
        have lb1 := Nat.lt_of_lt_of_le lb HB1.out.size
        obtain ⟨W2, hW2⟩ : ∃ W2, W2 = W1.alloc (.cells #[.slice an x.nm.length cn, .slice av x.wd.length cv, .slice af x.fi.length cf, .slice al x.li.length cl] 26) := ⟨_, rfl⟩
        have HB2 : Hid (Below W1.heap.size W1 W2) := by rw [hW2]; exact belA (Below.refl _ _) _
        have HZ2 : Hid (W2.heap[W1.heap.size]? = some (.cells #[.slice an x.nm.length cn, .slice av x.wd.length cv, .slice af x.fi.length cf, .slice al x.li.length cl] 26 (0, 0))) := by rw [hW2]; exact alAt rfl
        go_upto_region 10 with fail
        rw [← hW2]
        clear hW2 b0 b1 b2 b3
        obtain ⟨Z, hZ⟩ : ∃ Z, Z = W1.heap.size := ⟨_, rfl⟩
        rw [← hZ] at HZ2 ⊢
        have HZ : Hid (Z = W1.heap.size) := hZ
        clear hZ
        have lz := hLt HZ2.out
        go_upto_region 11 with (first
          | (go_at_call 20; refine (((HP0.out.below HB1.out).below HB2.out).merged H3.out).mono ?_; rintro e w3 ⟨a3, c3, rfl, HM3, HB3⟩; obtain ⟨z0, z1, z2, z3⟩ := cells4 ((HB3.out.block Z lz).trans HZ2.out); have fz := Lib.frozen_of_heap ((HB3.out.block Z lz).trans HZ2.out) 3; have lz3 := Nat.lt_of_lt_of_le lz HB3.out.size))
        obtain ⟨W3, hW3⟩ : ∃ W3, W3 = w3.setCell ⟨Z, 3, none⟩ (.slice a3 (mergeL ps).length c3) := ⟨_, rfl⟩
        rw [← hW3]
        have HS3 : Hid (W3.heap.size = w3.heap.size) := by rw [hW3]; simp [World.setCell, Hid]
        have HB13 : Hid (Below W1.heap.size W1 W3) := by rw [hW3]; exact belSetV (bel HB2.out HB3.out) (Nat.le_of_eq HZ.out.symm)
        have HM4 : Hid (ChAt W3 (.slice a3 (mergeL ps).length c3) (mergeL ps)) := by
          rw [hW3]; refine own_chs (ownsRow_setCell_below HM3.out ?_ _); exact lz
        have HZ3 : Hid (W3.cell? ⟨Z, 0, none⟩ = some (.slice an x.nm.length cn) ∧ W3.cell? ⟨Z, 1, none⟩ = some (.slice av x.wd.length cv) ∧ W3.cell? ⟨Z, 2, none⟩ = some (.slice af x.fi.length cf) ∧ W3.cell? ⟨Z, 3, none⟩ = some (.slice a3 (mergeL ps).length c3)) := by
          rw [hW3]; exact ⟨(cellSO (by simp)).trans z0, (cellSO (by simp)).trans z1, (cellSO (by simp)).trans z2, cellSS z3⟩
        clear hW3 z0 z1 z2 z3 fz lz3
        have HA3 : Hid (Wi W3 (.slice an x.nm.length cn) (.slice av x.wd.length cv) (.slice af x.fi.length cf) (.slice al x.li.length cl) x) := (HA0.out.below HB1.out).below HB13.out
        have HP3 : Hid (Pi W3 (.slice ao ps.length cap) ps) := (HP0.out.below HB1.out).below HB13.out
        have HD3 : Hid (Wi W3 (.slice an x.nm.length cn) (.slice av x.wd.length cv) (.slice af x.fi.length cf) (.slice a3 (mergeL ps).length c3) (withL x (mergeL ps))) := HA3.out.want HP3.out HM4.out
        have HX3 : Hid (W3.heap[E]? = some (.cells #[.slice an x.nm.length cn, .slice av x.wd.length cv, .slice af x.fi.length cf, .slice al x.li.length cl] 26 (0, 0))) := (HB13.out.block E lb1).trans ((HB1.out.block E lb).trans HX0.out)
        have HY3 : Hid (W3.heap[Y]? = some (.cells #[.slice an3 0 cn3, .slice av3 0 cv3, .slice af3 0 cf3, .slice al3 0 cl3] 26 (0, 0))) := (HB13.out.block Y (hLt HY1.out)).trans HY1.out
        have HBw : Hid (Below w.heap.size w W3) := bel HB0.out (bel HB1.out HB13.out)
        have lz3 : Z < W3.heap.size := by rw [HS3.out]; exact Nat.lt_of_lt_of_le lz HB3.out.size
        clear HB1 HB2 HB3 HB13 HZ2 HZ HM3 HM4 HS3 HA0 HP0 HX0 HY1 lb lb1 lz
        have lx3 := hLt HX3.out
        have ly3 := hLt HY3.out
        obtain ⟨b0, b1, b2, b3⟩ := cells4 HX3.out
        obtain ⟨z0, z1, z2, z3⟩ := HZ3.out
        cases hm : mayW x
        · have HM : Hid (mayW x = false) := hm
          clear hm
          go_wp2_with (first
            | (go_at_call 10; refine (HA3.out.may HM.out).mono ?_; rintro e w5 ⟨rfl, hb5⟩; obtain ⟨b0', b1', b2', b3'⟩ := cells4 ((hb5.block E lx3).trans HX3.out); have z0' := (hb5.cell (p := ⟨Z, 0, none⟩) lz3).trans z0; have z1' := (hb5.cell (p := ⟨Z, 1, none⟩) lz3).trans z1; have z2' := (hb5.cell (p := ⟨Z, 2, none⟩) lz3).trans z2; have z3' := (hb5.cell (p := ⟨Z, 3, none⟩) lz3).trans z3; obtain ⟨y0', y1', y2', y3'⟩ := cells4 ((hb5.block Y ly3).trans HY3.out); have lx5 := Nat.lt_of_lt_of_le lx3 hb5.size; have ly5 := Nat.lt_of_lt_of_le ly3 hb5.size; have lz5 := Nat.lt_of_lt_of_le lz3 hb5.size)
            | (go_at_call 11; refine (HP.out.aw _).mono ?_; rintro e w9 ⟨rfl, hb9⟩))
          go_ret
          exact ⟨rfl, bel HBw.out (bel hb5 hb9)⟩
        have HM : Hid (mayW x = true) := hm
        clear hm
        by_cases h0 : 0 < x.li.length
        · have h0' : decide ((0 : Int) < (x.li.length : Int)) = true := decide_eq_true (by omega)
          have h0n : decide (0 < x.li.length) = true := decide_eq_true h0
          go_wp2_with (first
            | (go_at_call 10; refine (HA3.out.may HM.out).mono ?_; rintro e w5 ⟨rfl, hb5⟩; obtain ⟨b0', b1', b2', b3'⟩ := cells4 ((hb5.block E lx3).trans HX3.out); have z0' := (hb5.cell (p := ⟨Z, 0, none⟩) lz3).trans z0; have z1' := (hb5.cell (p := ⟨Z, 1, none⟩) lz3).trans z1; have z2' := (hb5.cell (p := ⟨Z, 2, none⟩) lz3).trans z2; have z3' := (hb5.cell (p := ⟨Z, 3, none⟩) lz3).trans z3; obtain ⟨y0', y1', y2', y3'⟩ := cells4 ((hb5.block Y ly3).trans HY3.out); have lx5 := Nat.lt_of_lt_of_le lx3 hb5.size; have ly5 := Nat.lt_of_lt_of_le ly3 hb5.size; have lz5 := Nat.lt_of_lt_of_le lz3 hb5.size)
            | (go_at_call 11; refine (HP.out.aw _).mono ?_; rintro e w9 ⟨rfl, hb9⟩))
          go_ret
          exact ⟨rfl, bel HBw.out (bel hb5 hb9)⟩
        have hnil : x.li = [] := List.eq_nil_of_length_eq_zero (by omega)
        have HM2 : Hid (mayW (withL x (mergeL ps)) = false) := by
          have h := HO.out
          unfold okM at h
          rw [HM.out, hnil] at h
          exact h
        have h0' : decide ((0 : Int) < (x.li.length : Int)) = false := decide_eq_false (by omega)
        have h0n : decide (0 < x.li.length) = false := decide_eq_false h0
        clear hnil h0
        go_wp2_with (first
          | (go_at_call 10; refine ((HD3.out.below hb5).may HM2.out).mono ?_; rintro e w7 ⟨rfl, hb7⟩; obtain ⟨y0'', y1'', y2'', y3''⟩ := cells4 ((hb7.block Y ly5).trans ((hb5.block Y ly3).trans HY3.out)); have z0'' := (hb7.cell (p := ⟨Z, 0, none⟩) lz5).trans z0'; have z1'' := (hb7.cell (p := ⟨Z, 1, none⟩) lz5).trans z1'; have z2'' := (hb7.cell (p := ⟨Z, 2, none⟩) lz5).trans z2'; have z3'' := (hb7.cell (p := ⟨Z, 3, none⟩) lz5).trans z3'; have ly7 := Nat.lt_of_lt_of_le ly5 hb7.size; have lz7 := Nat.lt_of_lt_of_le lz5 hb7.size)
          | (go_at_call 10; refine (HA3.out.may HM.out).mono ?_; rintro e w5 ⟨rfl, hb5⟩; obtain ⟨b0', b1', b2', b3'⟩ := cells4 ((hb5.block E lx3).trans HX3.out); have z0' := (hb5.cell (p := ⟨Z, 0, none⟩) lz3).trans z0; have z1' := (hb5.cell (p := ⟨Z, 1, none⟩) lz3).trans z1; have z2' := (hb5.cell (p := ⟨Z, 2, none⟩) lz3).trans z2; have z3' := (hb5.cell (p := ⟨Z, 3, none⟩) lz3).trans z3; obtain ⟨y0', y1', y2', y3'⟩ := cells4 ((hb5.block Y ly3).trans HY3.out); have lx5 := Nat.lt_of_lt_of_le lx3 hb5.size; have ly5 := Nat.lt_of_lt_of_le ly3 hb5.size; have lz5 := Nat.lt_of_lt_of_le lz3 hb5.size)
          | (go_at_call 11; refine (HP.out.aw _).mono ?_; rintro e w9 ⟨rfl, hb9⟩))
        go_ret
        exact ⟨rfl, bel HBw.out (bel hb5 (bel hb7 hb9))⟩
      · have HO : Hid (okM x ps = true) := ho
        clear ho
        go_upto_region 9 with (first
          | (go_at_call 19; refine (HA0.out.mrg_yes HMe.out HP0.out HO.out).mono ?_; rintro e w1 ⟨an3, cn3, av3, cv3, af3, cf3, al3, cl3, rfl, HW1, hb1⟩))
        obtain ⟨W1, hW1⟩ : ∃ W1, W1 = w1.alloc (.cells #[.slice an3 x.nm.length cn3, .slice av3 x.wd.length cv3, .slice af3 x.fi.length cf3, .slice al3 (mergeL ps).length cl3] 26) := ⟨_, rfl⟩
        rw [← hW1]
        have HB1 : Hid (Below W0.heap.size W0 W1) := by rw [hW1]; exact belA hb1 _
        have HC1 : Hid (Wi W1 (.slice an3 x.nm.length cn3) (.slice av3 x.wd.length cv3) (.slice af3 x.fi.length cf3) (.slice al3 (mergeL ps).length cl3) (withL x (mergeL ps))) := by rw [hW1]; exact HW1.out.below (belA (Below.refl _ _) _)
        have HY1 : Hid (W1.heap[w1.heap.size]? = some (.cells #[.slice an3 x.nm.length cn3, .slice av3 x.wd.length cv3, .slice af3 x.fi.length cf3, .slice al3 (mergeL ps).length cl3] 26 (0, 0))) := by rw [hW1]; exact alAt rfl
        clear hW1 hb1 b0 b1 b2 b3 HW1
        generalize w1.heap.size = Y at *
        obtain ⟨b0, b1, b2, b3⟩ := cells4 ((HB1.out.block E lb).trans HX0.out)
        have lb1 := Nat.lt_of_lt_of_le lb HB1.out.size
        obtain ⟨W2, hW2⟩ : ∃ W2, W2 = W1.alloc (.cells #[.slice an x.nm.length cn, .slice av x.wd.length cv, .slice af x.fi.length cf, .slice al x.li.length cl] 26) := ⟨_, rfl⟩
        have HB2 : Hid (Below W1.heap.size W1 W2) := by rw [hW2]; exact belA (Below.refl _ _) _
        have HZ2 : Hid (W2.heap[W1.heap.size]? = some (.cells #[.slice an x.nm.length cn, .slice av x.wd.length cv, .slice af x.fi.length cf, .slice al x.li.length cl] 26 (0, 0))) := by rw [hW2]; exact alAt rfl
        go_upto_region 10 with fail
        rw [← hW2]
        clear hW2 b0 b1 b2 b3
        obtain ⟨Z, hZ⟩ : ∃ Z, Z = W1.heap.size := ⟨_, rfl⟩
        rw [← hZ] at HZ2 ⊢
        have HZ : Hid (Z = W1.heap.size) := hZ
        clear hZ
        have lz := hLt HZ2.out
        go_upto_region 11 with (first
          | (go_at_call 20; refine (((HP0.out.below HB1.out).below HB2.out).merged H3.out).mono ?_; rintro e w3 ⟨a3, c3, rfl, HM3, HB3⟩; obtain ⟨z0, z1, z2, z3⟩ := cells4 ((HB3.out.block Z lz).trans HZ2.out); have fz := Lib.frozen_of_heap ((HB3.out.block Z lz).trans HZ2.out) 3; have lz3 := Nat.lt_of_lt_of_le lz HB3.out.size))
        obtain ⟨W3, hW3⟩ : ∃ W3, W3 = w3.setCell ⟨Z, 3, none⟩ (.slice a3 (mergeL ps).length c3) := ⟨_, rfl⟩
        rw [← hW3]
        have HS3 : Hid (W3.heap.size = w3.heap.size) := by rw [hW3]; simp [World.setCell, Hid]
        have HB13 : Hid (Below W1.heap.size W1 W3) := by rw [hW3]; exact belSetV (bel HB2.out HB3.out) (Nat.le_of_eq HZ.out.symm)
        have HM4 : Hid (ChAt W3 (.slice a3 (mergeL ps).length c3) (mergeL ps)) := by
          rw [hW3]; refine own_chs (ownsRow_setCell_below HM3.out ?_ _); exact lz
        have HZ3 : Hid (W3.cell? ⟨Z, 0, none⟩ = some (.slice an x.nm.length cn) ∧ W3.cell? ⟨Z, 1, none⟩ = some (.slice av x.wd.length cv) ∧ W3.cell? ⟨Z, 2, none⟩ = some (.slice af x.fi.length cf) ∧ W3.cell? ⟨Z, 3, none⟩ = some (.slice a3 (mergeL ps).length c3)) := by
          rw [hW3]; exact ⟨(cellSO (by simp)).trans z0, (cellSO (by simp)).trans z1, (cellSO (by simp)).trans z2, cellSS z3⟩
        clear hW3 z0 z1 z2 z3 fz lz3
        have HA3 : Hid (Wi W3 (.slice an x.nm.length cn) (.slice av x.wd.length cv) (.slice af x.fi.length cf) (.slice al x.li.length cl) x) := (HA0.out.below HB1.out).below HB13.out
        have HP3 : Hid (Pi W3 (.slice ao ps.length cap) ps) := (HP0.out.below HB1.out).below HB13.out
        have HD3 : Hid (Wi W3 (.slice an x.nm.length cn) (.slice av x.wd.length cv) (.slice af x.fi.length cf) (.slice a3 (mergeL ps).length c3) (withL x (mergeL ps))) := HA3.out.want HP3.out HM4.out
        have HX3 : Hid (W3.heap[E]? = some (.cells #[.slice an x.nm.length cn, .slice av x.wd.length cv, .slice af x.fi.length cf, .slice al x.li.length cl] 26 (0, 0))) := (HB13.out.block E lb1).trans ((HB1.out.block E lb).trans HX0.out)
        have HY3 : Hid (W3.heap[Y]? = some (.cells #[.slice an3 x.nm.length cn3, .slice av3 x.wd.length cv3, .slice af3 x.fi.length cf3, .slice al3 (mergeL ps).length cl3] 26 (0, 0))) := (HB13.out.block Y (hLt HY1.out)).trans HY1.out
        have HC3 : Hid (Wi W3 (.slice an3 x.nm.length cn3) (.slice av3 x.wd.length cv3) (.slice af3 x.fi.length cf3) (.slice al3 (mergeL ps).length cl3) (withL x (mergeL ps))) := HC1.out.below HB13.out
        have HBw : Hid (Below w.heap.size w W3) := bel HB0.out (bel HB1.out HB13.out)
        have lz3 : Z < W3.heap.size := by rw [HS3.out]; exact Nat.lt_of_lt_of_le lz HB3.out.size
        clear HB1 HB2 HB3 HB13 HZ2 HZ HM3 HM4 HS3 HA0 HP0 HX0 HY1 lb lb1 lz HC1
        have lx3 := hLt HX3.out
        have ly3 := hLt HY3.out
        obtain ⟨b0, b1, b2, b3⟩ := cells4 HX3.out
        obtain ⟨z0, z1, z2, z3⟩ := HZ3.out
        have hok : mayW x = true ∧ x.li = [] ∧ mayW (withL x (mergeL ps)) = true := by
          have h := HO.out
          unfold okM at h
          rw [Bool.and_eq_true, Bool.and_eq_true] at h
          exact ⟨h.1.1, List.isEmpty_iff.1 h.1.2, h.2⟩
        have HM : Hid (mayW x = true) := hok.1
        have HM2 : Hid (mayW (withL x (mergeL ps)) = true) := hok.2.2
        have h0z : x.li.length = 0 := by rw [hok.2.1]; rfl
        have h0' : decide ((0 : Int) < (x.li.length : Int)) = false := decide_eq_false (by omega)
        have h0n : decide (0 < x.li.length) = false := decide_eq_false (by omega)
        clear hok h0z
        go_wp2_with (first
          | (go_at_call 15; refine (((HC3.out.below hb5).below hb7).same ((HD3.out.below hb5).below hb7)).mono ?_; rintro e w8 ⟨rfl, hb8⟩)
          | (go_at_call 10; refine ((HD3.out.below hb5).may HM2.out).mono ?_; rintro e w7 ⟨rfl, hb7⟩; obtain ⟨y0'', y1'', y2'', y3''⟩ := cells4 ((hb7.block Y ly5).trans ((hb5.block Y ly3).trans HY3.out)); have z0'' := (hb7.cell (p := ⟨Z, 0, none⟩) lz5).trans z0'; have z1'' := (hb7.cell (p := ⟨Z, 1, none⟩) lz5).trans z1'; have z2'' := (hb7.cell (p := ⟨Z, 2, none⟩) lz5).trans z2'; have z3'' := (hb7.cell (p := ⟨Z, 3, none⟩) lz5).trans z3'; have ly7 := Nat.lt_of_lt_of_le ly5 hb7.size; have lz7 := Nat.lt_of_lt_of_le lz5 hb7.size)
          | (go_at_call 10; refine (HA3.out.may HM.out).mono ?_; rintro e w5 ⟨rfl, hb5⟩; obtain ⟨b0', b1', b2', b3'⟩ := cells4 ((hb5.block E lx3).trans HX3.out); have z0' := (hb5.cell (p := ⟨Z, 0, none⟩) lz3).trans z0; have z1' := (hb5.cell (p := ⟨Z, 1, none⟩) lz3).trans z1; have z2' := (hb5.cell (p := ⟨Z, 2, none⟩) lz3).trans z2; have z3' := (hb5.cell (p := ⟨Z, 3, none⟩) lz3).trans z3; obtain ⟨y0', y1', y2', y3'⟩ := cells4 ((hb5.block Y ly3).trans HY3.out); have lx5 := Nat.lt_of_lt_of_le lx3 hb5.size; have ly5 := Nat.lt_of_lt_of_le ly3 hb5.size; have lz5 := Nat.lt_of_lt_of_le lz3 hb5.size)
          | (go_at_call 11; refine (HP.out.aw _).mono ?_; rintro e w9 ⟨rfl, hb9⟩))
        go_ret
        exact ⟨rfl, bel HBw.out (bel hb5 (bel hb7 (bel hb8 hb9)))⟩
end Go.Proofs.Ytfefgldngkpgjaa
