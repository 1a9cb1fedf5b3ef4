/- Layer 18: nets and first values in new memory; the times that are too late. -/
import Derived.Test.YtfefgldngkpgjaaVLf
import Derived.Test.YtfefgldngkpgjaaVU
import Derived.Deep.RegionHeld
namespace Go.Proofs.Ytfefgldngkpgjaa
set_option maxRecDepth 100000
open Go.RowKit Lg Nl Go.Maps Wf
set_option linter.unusedVariables false
set_option linter.unusedSimpArgs false

set_option maxHeartbeats 1000000 in
theorem cutLate_c (T : Nat) (t z : Int) (W : World) (h : W.cell? ⟨T, 0, none⟩ = some (.int .i64 z)) : Calls Try.prog 29 #[.int .i64 t, .pointer (some ⟨T, 0, none⟩)] W fun e w' => e = .returned (.bool (decide (z ≤ t))) ∧ w' = W := by
  go_enter Try.func29, Try.ntmps29
  go_wp2
  go_ret
  exact ⟨rfl, rfl⟩
set_option maxHeartbeats 1000000 in
theorem atLate_c (T : Nat) (t z : Int) (W : World) (h : W.cell? ⟨T, 0, none⟩ = some (.int .i64 z)) : Calls Try.prog 31 #[.int .i64 t, .pointer (some ⟨T, 0, none⟩)] W fun e w' => e = .returned (.bool (decide (z < t))) ∧ w' = W := by
  go_enter Try.func31, Try.ntmps31
  go_wp2
  go_ret
  exact ⟨rfl, rfl⟩
theorem cnt_range (p : Ch → Bool) : ∀ l : List Ch, (List.range l.length).countP (fun i => p (cA l i)) = l.countP p := by
  intro l
  have : l = (List.range l.length).map (cA l) := by
    apply List.ext_getElem
    · simp
    · intro i h1 h2; rw [List.getElem_map, List.getElem_range, cA_at h1]
  conv => rhs; rw [this]
  rw [List.countP_map]
  rfl
theorem take_cut {wd : List Int} {now : List ByteArray} {l : List Ch} (h : lsB wd none now l = true) (t : Int) (m : Nat) (hm : m = (List.range l.length).countP (fun i => !decide (t ≤ (cA l i).t))) : l.take m = cutL t l := by
  have e : m = (cutL t l).length := by
    rw [hm, cnt_range (fun c => !decide (t ≤ c.t)) l, List.countP_eq_length_filter]
    unfold cutL
    congr 2
    funext c
    rw [← decide_not]
    exact decide_eq_decide.2 (by omega)
  rw [e]
  exact (ls_cut wd t l none now h).1.symm
theorem ls_times {wd : List Int} {now : List ByteArray} {l : List Ch} (h : lsB wd none now l = true) (i j : Nat) (hij : i ≤ j) (hj : j < l.length) : (cA l i).t ≤ (cA l j).t := by
  have hs := (ls_srt wd l none now h).1
  rcases Nat.lt_or_ge i j with h1 | h1
  · have := List.pairwise_iff_getElem.1 hs i j (by omega) hj h1
    rw [ah_iff] at this
    rw [cA_at (by omega : i < l.length), cA_at hj]
    omega
  · have : i = j := by omega
    subst this
    omega
set_option maxHeartbeats 4000000 in
theorem unchanged_c (x : Wv) (vn vw vf vl : Value) (w : World) (hx : WvAt w vn vw vf vl x) (hnl : x.nm.length ≤ 4096) (hwl : x.wd.length ≤ 4096) (hfl : x.fi.length ≤ 4096) :
    Calls Try.prog 26 #[.agg #[vn, vw, vf, vl]] w fun e w' => ∃ a1 k1 a2 k2 a3 k3, e = .returned (.agg #[.slice a1 x.nm.length k1, .slice a2 x.wd.length k2, .slice a3 x.fi.length k3, .slice none 0 0]) ∧ Hid (w'.ownsRow w.heap.size 9 1 (.slice a1 x.nm.length k1) x.nm.length (sC x.nm)) ∧ Hid (w'.ownsRow w.heap.size 3 1 (.slice a2 x.wd.length k2) x.wd.length (iC x.wd)) ∧ Hid (w'.ownsRow w.heap.size 9 1 (.slice a3 x.fi.length k3) x.fi.length (sC x.fi)) ∧ Below w.heap.size w w' := by
  have HA : Hid (WvAt w vn vw vf vl x) := hx
  obtain ⟨W0, hW0⟩ : ∃ W0, W0 = (w.alloc (.cells #[vn, vw, vf, vl] 26)).alloc (.cells #[.slice none 0 0, .slice none 0 0, .slice none 0 0, .slice none 0 0] 26) := ⟨_, rfl⟩
  have HB0 : Hid (Below w.heap.size w W0) := by rw [hW0]; exact belA (belA (Below.refl _ _) _) _
  have HX0 : Hid (W0.heap[w.heap.size]? = some (.cells #[vn, vw, vf, vl] 26 (0, 0))) := by rw [hW0]; exact (alOld (by simp)).trans (alAt rfl)
  have HR0 : Hid (W0.heap[w.heap.size + 1]? = some (.cells #[.slice none 0 0, .slice none 0 0, .slice none 0 0, .slice none 0 0] 26 (0, 0))) := by rw [hW0]; exact alAt (by simp)
  have HA0 : Hid (WvAt W0 vn vw vf vl x) := HA.out.below HB0.out
  have HC1 : Hid (∀ W, Below W0.heap.size W0 W → Calls Try.prog 30 #[vn] W fun e w' => ∃ a c, e = .returned (.slice a x.nm.length c) ∧ Hid (w'.ownsRow W0.heap.size 9 1 (.slice a x.nm.length c) x.nm.length (sC x.nm)) ∧ Below W.heap.size W w') := fun W hW => (cloneS_c vn x.nm W (HA0.out.nm.below hW) (by omega)).mono (by
    rintro e w' ⟨v', rfl, ho, hb⟩
    obtain ⟨a, c, rfl⟩ := own_slice ho.out
    exact ⟨a, c, rfl, own_lo ho.out hW.size, hb⟩)
  have HC2 : Hid (∀ W, Below W0.heap.size W0 W → Calls Try.prog 42 #[vw] W fun e w' => ∃ a c, e = .returned (.slice a x.wd.length c) ∧ Hid (w'.ownsRow W0.heap.size 3 1 (.slice a x.wd.length c) x.wd.length (iC x.wd)) ∧ Below W.heap.size W w') := fun W hW => (cloneI_c vw x.wd W (HA0.out.wd.below hW) (by omega)).mono (by
    rintro e w' ⟨v', rfl, ho, hb⟩
    obtain ⟨a, c, rfl⟩ := own_slice ho.out
    exact ⟨a, c, rfl, own_lo ho.out hW.size, hb⟩)
  have HC3 : Hid (∀ W, Below W0.heap.size W0 W → Calls Try.prog 30 #[vf] W fun e w' => ∃ a c, e = .returned (.slice a x.fi.length c) ∧ Hid (w'.ownsRow W0.heap.size 9 1 (.slice a x.fi.length c) x.fi.length (sC x.fi)) ∧ Below W.heap.size W w') := fun W hW => (cloneS_c vf x.fi W (HA0.out.fi.below hW) (by omega)).mono (by
    rintro e w' ⟨v', rfl, ho, hb⟩
    obtain ⟨a, c, rfl⟩ := own_slice ho.out
    exact ⟨a, c, rfl, own_lo ho.out hW.size, hb⟩)
  clear hx hnl hwl hfl
  go_enter Try.func26, Try.ntmps26
  go_upto_region 1 with fail
  rw [← hW0]
  clear hW0 HA
  obtain ⟨b0, b1, b2, b3⟩ := cells4 HX0.out
  have lb := hLt HX0.out
  have lr := hLt HR0.out
  obtain ⟨r0, r1, r2, r3⟩ := cells4 HR0.out
  obtain ⟨E, hE⟩ : ∃ E, E = w.heap.size := ⟨_, rfl⟩
  rw [← hE] at HX0 HR0 b0 b1 b2 b3 lb lr r0 r1 r2 r3 ⊢
  have HE : Hid (E = w.heap.size) := hE
  clear hE
  obtain ⟨R, hR⟩ : ∃ R, R = E + 1 := ⟨_, rfl⟩
  rw [← hR] at HR0 lr r0 r1 r2 r3 ⊢
  have HR : Hid (R = E + 1) := hR
  clear hR r0 r1 r2 r3
  go_region_held (fun w' => w'.cell? ⟨E, 0, none⟩ = some vn ∧ w'.cell? ⟨E, 1, none⟩ = some vw ∧ w'.cell? ⟨E, 2, none⟩ = some vf) (go_keep) (first
    | (go_at_call 30; refine (HC3.out _ (bel HB1.out HB2.out)).mono ?_; rintro e w3 ⟨a3, k3, rfl, HV3, hb3⟩; have HB3 : Hid (Below w2.heap.size w2 w3) := hb3; clear hb3; obtain ⟨b0''', b1''', b2''', b3'''⟩ := cells4 ((HB3.out.block E (Nat.lt_of_lt_of_le (Nat.lt_of_lt_of_le lb HB1.out.size) HB2.out.size)).trans ((HB2.out.block E (Nat.lt_of_lt_of_le lb HB1.out.size)).trans ((HB1.out.block E lb).trans HX0.out))); have hR3 := (HB3.out.block R (Nat.lt_of_lt_of_le (Nat.lt_of_lt_of_le lr HB1.out.size) HB2.out.size)).trans ((HB2.out.block R (Nat.lt_of_lt_of_le lr HB1.out.size)).trans ((HB1.out.block R lr).trans HR0.out)); obtain ⟨r0', r1', r2', r3'⟩ := cells4 hR3; have g0 := Lib.frozen_of_heap hR3 0; have g1 := Lib.frozen_of_heap hR3 1; have g2 := Lib.frozen_of_heap hR3 2; have g3 := Lib.frozen_of_heap hR3 3; have lr3 := Nat.lt_of_lt_of_le (Nat.lt_of_lt_of_le (Nat.lt_of_lt_of_le lr HB1.out.size) HB2.out.size) HB3.out.size; have hne1 : (R = E) = False := eq_false (by have := HR.out; omega); have HR3 : Hid _ := hR3; clear hR3)
    | (go_at_call 42; refine (HC2.out _ HB1.out).mono ?_; rintro e w2 ⟨a2, k2, rfl, HV2, hb2⟩; have HB2 : Hid (Below w1.heap.size w1 w2) := hb2; clear hb2; obtain ⟨b0'', b1'', b2'', b3''⟩ := cells4 ((HB2.out.block E (Nat.lt_of_lt_of_le lb HB1.out.size)).trans ((HB1.out.block E lb).trans HX0.out)))
    | (go_at_call 30; refine (HC1.out _ (bdn (Below.refl _ _) _)).mono ?_; rintro e w1 ⟨a1, k1, rfl, HV1, hb1⟩; have HB1 : Hid (Below W0.heap.size W0 w1) := bel (bdn (Below.refl _ _) 1) hb1; clear hb1; obtain ⟨b0', b1', b2', b3'⟩ := cells4 ((HB1.out.block E lb).trans HX0.out)))
  go_wp2_with fail
  refine bodyPost_ret (v := .agg #[.slice a1 x.nm.length k1, .slice a2 x.wd.length k2, .slice a3 x.fi.length k3, .slice none 0 0]) (by simp [results, Try.results26, go_sem, *]) rfl ?_
  have hE := HE.out
  have hR := HR.out
  have st : ∀ (e n : Nat) (v : Value) (xs : List Value), w3.ownsRow W0.heap.size e 1 v n xs → ((((w3.setCell ⟨R, 0, none⟩ (.slice a1 x.nm.length k1)).setCell ⟨R, 1, none⟩ (.slice a2 x.wd.length k2)).setCell ⟨R, 2, none⟩ (.slice a3 x.fi.length k3)).setCell ⟨R, 3, none⟩ (.slice none 0 0)).ownsRow W0.heap.size e 1 v n xs := fun e n v xs h =>
    ownsRow_setCell_below (ownsRow_setCell_below (ownsRow_setCell_below (ownsRow_setCell_below h lr _) lr _) lr _) lr _
  have hB3 : Below W0.heap.size W0 w3 := bel HB1.out (bel HB2.out HB3.out)
  exact ⟨_, _, _, _, _, _, rfl, own_lo (st _ _ _ _ (own_below (own_below HV1.out HB2.out) HB3.out)) HB0.out.size, own_lo (st _ _ _ _ (own_below HV2.out HB3.out)) HB0.out.size, own_lo (st _ _ _ _ HV3.out) HB0.out.size, belSetV (belSetV (belSetV (belSetV (bel HB0.out hB3) (by omega)) (by omega)) (by omega)) (by omega)⟩
end Go.Proofs.Ytfefgldngkpgjaa
