/- Layer 19: VcdReads. -/
import Derived.Test.YtodpljgajjcdoaaGreatDoorHG
import Derived.Test.YtodpljgajjcdoaaGreatDoorDP
import Derived.Test.YtodpljgajjcdoaaGreatDoorUY
import Derived.Test.YtodpljgajjcdoaaGreatDoorUZ
import Derived.Test.YtodpljgajjcdoaaGreatDoorGUr
import Derived.Test.YtodpljgajjcdoaaGreatDoorVF
namespace Go.Proofs.YtodpljgajjcdoaaGreatDoor
set_option maxRecDepth 100000
open Go.RowKit Lg Nl Go.Maps Wf Vd
set_option linter.unusedVariables false
set_option linter.unusedSimpArgs false

theorem rRead_long (s : ByteArray) (w : World) (hs : 1048576 < s.size) : Calls Tryz.prog 6 #[.string s] w fun e w' => e = .returned (.tuple #[nilW, .int .i64 4]) ∧ Below w.heap.size w w' := by
  have i1 : (1048576 : Int) < (s.size : Int) := by omega
  obtain ⟨W0, hW0⟩ : ∃ W0, W0 = w.alloc (.cells #[.slice none 0 0, .slice none 0 0, .slice none 0 0, .slice none 0 0] 27) := ⟨_, rfl⟩
  have HB0 : Hid (Below w.heap.size w W0) := by rw [hW0]; exact belA (Below.refl _ _) _
  have HR0 : Hid (W0.heap[w.heap.size]? = some (.cells #[.slice none 0 0, .slice none 0 0, .slice none 0 0, .slice none 0 0] 27 (0, 0))) := by rw [hW0]; exact alAt rfl
  go_enter Tryz.func6, Tryz.ntmps6
  go_upto_region 1 with fail
  rw [← hW0]
  clear hW0
  obtain ⟨R, hR⟩ : ∃ R, R = w.heap.size := ⟨_, rfl⟩
  have HRw : Hid (w.heap.size ≤ R) := Nat.le_of_eq hR.symm
  rw [← hR] at HR0 ⊢
  clear hR
  obtain ⟨q0, q1, q2, q3⟩ := cells4 HR0.out
  have qf := fun j => Lib.frozen_of_heap HR0.out j
  have lR := hLt HR0.out
  go_wp2_with fail
  obtain ⟨WA, hWA⟩ : ∃ WA, WA = (((W0.setCell ⟨R, 0, none⟩ (.slice none 0 0)).setCell ⟨R, 1, none⟩ (.slice none 0 0)).setCell ⟨R, 2, none⟩ (.slice none 0 0)).setCell ⟨R, 3, none⟩ (.slice none 0 0) := ⟨_, rfl⟩
  have HRA : Hid (WA.heap[R]? = some (.cells #[.slice none 0 0, .slice none 0 0, .slice none 0 0, .slice none 0 0] 27 (0, 0))) := by rw [hWA]; exact put4 HR0.out
  have HBA : Hid (Below w.heap.size w WA) := by rw [hWA]; exact belSetV (belSetV (belSetV (belSetV HB0.out HRw.out) HRw.out) HRw.out) HRw.out
  rw [← hWA]
  clear hWA
  obtain ⟨z0, z1, z2, z3⟩ := cells4 HRA.out
  try simp only [Exit.inBlock, Exit.then]
  refine bodyPost_ret (v := .tuple #[.agg #[.slice none 0 0, .slice none 0 0, .slice none 0 0, .slice none 0 0], .int .i64 4]) (by simp [results, Tryz.results6, go_sem, z0, z1, z2, z3]) rfl ?_
  exact ⟨rfl, HBA.out⟩
/-- both readers tell one waveform, or one error -/
def Two (s : ByteArray) (x : Wv) (ec : Int) (f : Nat) (w : World) : Prop := Calls Tryz.prog f #[.string s] w fun e w' => ∃ an cn aw_ cw af cf al cl, e = .returned (.tuple #[.agg #[.slice an x.nm.length cn, .slice aw_ x.wd.length cw, .slice af x.fi.length cf, .slice al x.li.length cl], .int .i64 ec]) ∧ Hid (WvAt w' (.slice an x.nm.length cn) (.slice aw_ x.wd.length cw) (.slice af x.fi.length cf) (.slice al x.li.length cl) x) ∧ Below w.heap.size w w'
theorem two_nil {s : ByteArray} {ec : Int} {f : Nat} {w : World} (h : Calls Tryz.prog f #[.string s] w fun e w' => e = .returned (.tuple #[nilW, .int .i64 ec]) ∧ Below w.heap.size w w') : Two s wv0 ec f w :=
  Calls.mono h fun e w' ⟨h1, h2⟩ => ⟨none, 0, none, 0, none, 0, none, 0, h1, wv0_atN w', h2⟩
theorem two_some {s : ByteArray} {x : Wv} {f : Nat} {w : World} (h : Calls Tryz.prog f #[.string s] w fun e w' => RdR w (some x) e w') : Two s x 0 f w :=
  Calls.mono h fun e w' ⟨h2, an, cn, aw_, cw, af, cf, al, cl, h1, h3⟩ => ⟨an, cn, aw_, cw, af, cf, al, cl, h1, h3, h2⟩
theorem two_none {s : ByteArray} {f : Nat} {w : World} (h : Calls Tryz.prog f #[.string s] w fun e w' => RdR w none e w') : Two s wv0 190 f w :=
  two_nil (Calls.mono h fun e w' ⟨h2, h1⟩ => ⟨h1, h2⟩)
/-- what both tell -/
theorem both_read (s : ByteArray) (hs : s.size ≤ 16384 ∨ 1048576 < s.size) : ∃ (x : Wv) (ec : Int), Bd x ∧ (∀ w, PowT w → ErrV w → Two s x ec 5 w) ∧ (∀ w, PowT w → Two s x ec 6 w) := by
  by_cases hl : 1048576 < s.size
  · exact ⟨wv0, 4, fw0.b, fun w _ _ => two_nil (Read_long s w hl), fun w _ => two_nil (rRead_long s w hl)⟩
  · have hls : (L s).length ≤ 1048576 := by rw [len_L]; omega
    cases hk : keepM (L s) with
    | none =>
      refine ⟨wv0, 190, fw0.b, fun w hp hv => two_none ?_, fun w hp => two_none ?_⟩
      · have h := Read_all (L s) w hls hp hv (fun y hy => readM_fw hy hls)
        rw [S_of_L, hk] at h
        exact h
      · have h := rRead_c (L s) w hls hp
        rw [S_of_L, keepR_eq, hk] at h
        exact h
    | some x =>
      have hrd : readM (L s) = some x := by
        unfold keepM at hk
        cases hq : readM (L s) with
        | none => rw [hq] at hk; cases hk
        | some y =>
          rw [hq] at hk
          simp only at hk
          by_cases hc : wrE y = 0 ∧ wrT y = L s
          · rw [if_pos hc] at hk
            injection hk with hk
            rw [hk]
          · rw [if_neg hc] at hk; cases hk
      refine ⟨x, 0, (readM_fw hrd hls).b, fun w hp hv => two_some ?_, fun w hp => two_some ?_⟩
      · have h := Read_all (L s) w hls hp hv (fun y hy => readM_fw hy hls)
        rw [S_of_L, hk] at h
        exact h
      · have h := rRead_c (L s) w hls hp
        rw [S_of_L, keepR_eq, hk] at h
        exact h
set_option maxHeartbeats 4000000 in
set_option maxRecDepth 1000000 in
theorem VcdReads_c (P : PD) (s : ByteArray) (w : World) (hp : PowT w) (hv : ErrV w) : Calls Tryz.prog 3 #[.string s] w fun e w' => e = .returned (.bool true) ∧ Below w.heap.size w w' := by
  have HP : Hid PD := P
  have HP0 : Hid (PowT w) := hp
  have HV0 : Hid (ErrV w) := hv
  clear P hp hv
  by_cases h1 : 16384 < s.size ∧ s.size ≤ 1048576
  · have i1 : (16384 : Int) < (s.size : Int) := by omega
    have i2 : (s.size : Int) ≤ 1048576 := by omega
    clear h1
    go_enter Tryz.func3, Tryz.ntmps3
    go_wp2_with (first
      | (go_at_call 4; refine (HP.out.aw _ HP0.out).mono ?_; rintro e w9 ⟨rfl, hb9⟩))
    go_ret
    exact ⟨rfl, hb9⟩
  · obtain ⟨x, ec, hbd, hA, hB⟩ := both_read s (by omega)
    have HA : Hid (∀ w, PowT w → ErrV w → Two s x ec 5 w) := hA
    have HB : Hid (∀ w, PowT w → Two s x ec 6 w) := hB
    have HBd : Hid (Bd x) := hbd
    have hways : (¬ (16384 : Int) < (s.size : Int)) ∨ ((16384 : Int) < (s.size : Int) ∧ ¬ (s.size : Int) ≤ 1048576) := by omega
    clear hA hB hbd h1
    rcases hways with j1 | ⟨j1, j2⟩
    all_goals (
      go_enter Tryz.func3, Tryz.ntmps3
      go_upto_region 4 with (first
        | (go_at_call 5; refine Calls.mono (HA.out _ HP0.out HV0.out) ?_; rintro e w2 ⟨an2, cn2, awq2, cw2, af2, cf2, al2, cl2, rfl, ha2, hb2⟩))
      obtain ⟨W3, hW3⟩ : ∃ W3, W3 = w2.alloc (.cells #[.slice an2 x.nm.length cn2, .slice awq2 x.wd.length cw2, .slice af2 x.fi.length cf2, .slice al2 x.li.length cl2] 27) := ⟨_, rfl⟩
      have HB3 : Hid (Below w.heap.size w W3) := by rw [hW3]; exact belA hb2 _
      have HX3 : Hid (W3.heap[w2.heap.size]? = some (.cells #[.slice an2 x.nm.length cn2, .slice awq2 x.wd.length cw2, .slice af2 x.fi.length cf2, .slice al2 x.li.length cl2] 27 (0, 0))) := by rw [hW3]; exact alAt rfl
      have HA3 : Hid (WvAt W3 (.slice an2 x.nm.length cn2) (.slice awq2 x.wd.length cw2) (.slice af2 x.fi.length cf2) (.slice al2 x.li.length cl2) x) := by rw [hW3]; exact ha2.out.below (belA (Below.refl _ _) _)
      rw [← hW3]
      clear hW3 hb2 ha2
      obtain ⟨F, hF⟩ : ∃ F, F = w2.heap.size := ⟨_, rfl⟩
      rw [← hF] at HX3 ⊢
      clear hF
      have lF := hLt HX3.out
      go_upto_region 5 with (first
        | (go_at_call 6; refine Calls.mono (HB.out _ (HP0.out.bel HB3.out)) ?_; rintro e w4 ⟨an4, cn4, aw4, cw4, af4, cf4, al4, cl4, rfl, ha4, hb4⟩))
      obtain ⟨W5, hW5⟩ : ∃ W5, W5 = w4.alloc (.cells #[.slice an4 x.nm.length cn4, .slice aw4 x.wd.length cw4, .slice af4 x.fi.length cf4, .slice al4 x.li.length cl4] 27) := ⟨_, rfl⟩
      have HB35 : Hid (Below W3.heap.size W3 W5) := by rw [hW5]; exact belA hb4 _
      have HX5 : Hid (W5.heap[w4.heap.size]? = some (.cells #[.slice an4 x.nm.length cn4, .slice aw4 x.wd.length cw4, .slice af4 x.fi.length cf4, .slice al4 x.li.length cl4] 27 (0, 0))) := by rw [hW5]; exact alAt rfl
      have HA5 : Hid (WvAt W5 (.slice an4 x.nm.length cn4) (.slice aw4 x.wd.length cw4) (.slice af4 x.fi.length cf4) (.slice al4 x.li.length cl4) x) := by rw [hW5]; exact ha4.out.below (belA (Below.refl _ _) _)
      rw [← hW5]
      clear hW5 hb4 ha4
      obtain ⟨G, hG⟩ : ∃ G, G = w4.heap.size := ⟨_, rfl⟩
      rw [← hG] at HX5 ⊢
      clear hG
      have HXF : Hid (W5.heap[F]? = some (.cells #[.slice an2 x.nm.length cn2, .slice awq2 x.wd.length cw2, .slice af2 x.fi.length cf2, .slice al2 x.li.length cl2] 27 (0, 0))) := (HB35.out.block F lF).trans HX3.out
      obtain ⟨b0, b1, b2, b3⟩ := cells4 HX5.out
      obtain ⟨d0, d1, d2, d3⟩ := cells4 HXF.out
      have lG := hLt HX5.out
      have lF5 := hLt HXF.out
      have HB5 : Hid (Below w.heap.size w W5) := bel HB3.out HB35.out
      have HSm : Hid (∀ W : World, Below W5.heap.size W5 W → Calls Tryz.prog 7 #[.agg #[.slice an2 x.nm.length cn2, .slice awq2 x.wd.length cw2, .slice af2 x.fi.length cf2, .slice al2 x.li.length cl2], .agg #[.slice an4 x.nm.length cn4, .slice aw4 x.wd.length cw4, .slice af4 x.fi.length cf4, .slice al4 x.li.length cl4], .bool true] W fun e w' => e = .returned (.bool true) ∧ Below W.heap.size W w') := fun W hW => by
        have h := sameW_c x x _ _ _ _ _ _ _ _ W ((HA3.out.below HB35.out).below hW) (HA5.out.below hW) HBd.out
        rw [sameB_self] at h
        exact h
      clear HX3 HA3 HX5 HA5 HXF HB35 HB3
      have hee : (ec == ec) = true := beq_self_eq_true _
      go_wp2_with (first
        | (go_at_call 7; refine (HSm.out _ (Below.refl _ _)).mono ?_; rintro e w6 ⟨rfl, hb6⟩)
        | (go_at_call 4; refine (HP.out.aw _ ((HP0.out.bel HB5.out).bel hb6)).mono ?_; rintro e w9 ⟨rfl, hb9⟩))
      all_goals (
        go_ret
        exact ⟨rfl, bel HB5.out (bel hb6 hb9)⟩))
end Go.Proofs.YtodpljgajjcdoaaGreatDoor
