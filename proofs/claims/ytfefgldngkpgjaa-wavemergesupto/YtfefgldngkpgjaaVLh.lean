/- Layer 18: the program's Cut. -/
import Derived.Test.YtfefgldngkpgjaaVLe
import Derived.Test.YtfefgldngkpgjaaVLg
namespace Go.Proofs.Ytfefgldngkpgjaa
set_option maxRecDepth 100000
open Go.RowKit Lg Nl Go.Maps Wf
set_option linter.unusedVariables false
set_option linter.unusedSimpArgs false

/-- hidden, its type as it stands -/
theorem hidV {p : Prop} (h : p) : Hid p := h
theorem own_set {w : World} {B e z n : Nat} {v : Value} {xs : List Value} (h : w.ownsRow B e z v n xs) {b i : Nat} {u : Value} (hb : v.ownBlock ≠ some b) : (w.setCell ⟨b, i, none⟩ u).ownsRow B e z v n xs :=
  own_at2 h fun k hk => Below.heap_setCell _ _ _ _ (by show k ≠ b; rintro rfl; exact hb hk)
theorem own_ne {w : World} {B e z n : Nat} {v : Value} {xs : List Value} (h : w.ownsRow B e z v n xs) {b : Nat} (hb : b < B ∨ w.heap.size ≤ b) : v.ownBlock ≠ some b := fun e => by have := World.ownsRow.lt h b e; omega
theorem wv0_at (W : World) : WvAt W (.slice none 0 0) (.slice none 0 0) (.slice none 0 0) (.slice none 0 0) wv0 :=
  ⟨⟨_, _, rfl, ⟨Nat.le_refl _, fun _ => rfl⟩, Or.inl rfl⟩, ⟨_, _, rfl, Nat.le_refl _, Or.inl rfl⟩, ⟨_, _, rfl, ⟨Nat.le_refl _, fun _ => rfl⟩, Or.inl rfl⟩, ⟨_, _, rfl, ⟨Nat.le_refl _, fun _ => rfl⟩, Or.inl rfl⟩⟩
set_option maxHeartbeats 4000000 in
theorem cut_c : CutC := by
  intro x vn vw vf vl t w hx hz hbd hl
  obtain ⟨o, ho⟩ : ∃ o, o = okT x t := ⟨_, rfl⟩
  obtain ⟨y, hy⟩ : ∃ y, y = (if okT x t then cutW t x else wv0) := ⟨_, rfl⟩
  rw [← hy, ← ho]
  have HOo : Hid (o = okT x t) := ho
  have HYy : Hid (y = (if okT x t then cutW t x else wv0)) := hy
  clear ho hy
  have HZ : Hid (Sz x ∧ Bd x) := ⟨hz, hbd⟩
  have HA : Hid (WvAt w vn vw vf vl x) := hx
  have HLl : Hid (x.li.length ≤ 4398046511000) := hl
  obtain ⟨al, cl, rfl, _, _⟩ := hx.li
  clear hx hz hbd hl
  obtain ⟨W0, hW0⟩ : ∃ W0, W0 = ((w.alloc (.cells #[vn, vw, vf, .slice al x.li.length cl] 26)).alloc (.cells #[.int .i64 t] 3)).alloc (.cells #[.slice none 0 0, .slice none 0 0, .slice none 0 0, .slice none 0 0] 26) := ⟨_, rfl⟩
  have HB0 : Hid (Below w.heap.size w W0) := by rw [hW0]; exact belA (belA (belA (Below.refl _ _) _) _) _
  have HX0 : Hid (W0.heap[w.heap.size]? = some (.cells #[vn, vw, vf, .slice al x.li.length cl] 26 (0, 0))) := by rw [hW0]; exact (alOld (by simp <;> omega)).trans ((alOld (by simp)).trans (alAt rfl))
  have HT0 : Hid (W0.heap[w.heap.size + 1]? = some (.cells #[.int .i64 t] 3 (0, 0))) := by rw [hW0]; exact (alOld (by simp)).trans (alAt (by simp))
  have HR0 : Hid (W0.heap[w.heap.size + 1 + 1]? = some (.cells #[.slice none 0 0, .slice none 0 0, .slice none 0 0, .slice none 0 0] 26 (0, 0))) := by rw [hW0]; exact alAt (by simp)
  have HA0 : Hid (WvAt W0 vn vw vf (.slice al x.li.length cl) x) := HA.out.below HB0.out
  have HCk : Hid (∀ W, Below W0.heap.size W0 W → Calls Try.prog 9 #[.agg #[vn, vw, vf, .slice al x.li.length cl]] W fun e w' => e = .returned (.int .i64 (erOf (mayW x))) ∧ Below W.heap.size W w') := fun W hW => check_c x vn vw vf _ W (HA0.out.below hW) HZ.out.1 HZ.out.2
  go_enter Try.func12, Try.ntmps12
  go_upto_region 1 with fail
  rw [← hW0]
  clear hW0 HA
  obtain ⟨b0, b1, b2, b3⟩ := cells4 HX0.out
  have lb := hLt HX0.out
  have x0 := one_cell HT0.out
  have lt := hLt HT0.out
  have lr := hLt HR0.out
  obtain ⟨r0, r1, r2, r3⟩ := cells4 HR0.out
  have g0 := Lib.frozen_of_heap HR0.out 0
  have g1 := Lib.frozen_of_heap HR0.out 1
  have g2 := Lib.frozen_of_heap HR0.out 2
  have g3 := Lib.frozen_of_heap HR0.out 3
  obtain ⟨E, hE⟩ : ∃ E, E = w.heap.size := ⟨_, rfl⟩
  rw [← hE] at HX0 HT0 HR0 b0 b1 b2 b3 lb x0 lt lr r0 r1 r2 r3 g0 g1 g2 g3 ⊢
  have HE : Hid (E = w.heap.size) := hE
  clear hE
  obtain ⟨T, hT⟩ : ∃ T, T = E + 1 := ⟨_, rfl⟩
  rw [← hT] at HT0 HR0 x0 lt lr r0 r1 r2 r3 g0 g1 g2 g3 ⊢
  have HT : Hid (T = E + 1) := hT
  clear hT
  obtain ⟨R, hR⟩ : ∃ R, R = T + 1 := ⟨_, rfl⟩
  rw [← hR] at HR0 lr r0 r1 r2 r3 g0 g1 g2 g3 ⊢
  have HR : Hid (R = T + 1) := hR
  clear hR
  by_cases ht : t < 0
  · have ht' : decide (t < 0) = true := decide_eq_true ht
    have HO : Hid (okT x t = false) := by show okT x t = false; unfold okT; rw [decide_eq_false (by omega : ¬ 0 ≤ t), Bool.and_false]
    clear ht
    go_wp2_with fail
    refine bodyPost_ret (v := .tuple #[.agg #[.slice none 0 0, .slice none 0 0, .slice none 0 0, .slice none 0 0], .int .i64 1]) (by simp [results, Try.results12, go_sem, *]) rfl ?_
    have hE := HE.out
    have hT := HT.out
    have hR := HR.out
    refine ⟨_, _, _, _, by rw [HOo.out, HO.out]; rfl, ?_, ?_⟩
    · rw [HYy.out, HO.out]; exact wv0_at _
    · exact belSetV (belSetV (belSetV (belSetV HB0.out (by omega)) (by omega)) (by omega)) (by omega)
  · have ht' : decide (t < 0) = false := decide_eq_false ht
    have HTn : Hid (0 ≤ t) := by show 0 ≤ t; omega
    clear ht
    cases hm : mayW x
    · rw [hm] at HCk
      have HO : Hid (okT x t = false) := by show okT x t = false; unfold okT; rw [hm]; rfl
      clear hm r0 r1 r2 r3 g0 g1 g2 g3
      go_wp2_with (first
        | (go_at_call 9; refine (HCk.out _ (Below.refl _ _)).mono ?_; rintro e w1 ⟨rfl, hb1⟩; rw [erOf_f]; have HB1 : Hid (Below W0.heap.size W0 w1) := hb1; clear hb1; have hR1 := (HB1.out.block R lr).trans HR0.out; obtain ⟨r0, r1, r2, r3⟩ := cells4 hR1; have g0 := Lib.frozen_of_heap hR1 0; have g1 := Lib.frozen_of_heap hR1 1; have g2 := Lib.frozen_of_heap hR1 2; have g3 := Lib.frozen_of_heap hR1 3; have lr1 := Nat.lt_of_lt_of_le lr HB1.out.size; clear hR1))
      refine bodyPost_ret (v := .tuple #[.agg #[.slice none 0 0, .slice none 0 0, .slice none 0 0, .slice none 0 0], .int .i64 1]) (by simp [results, Try.results12, go_sem, *]) rfl ?_
      have hE := HE.out
      have hT := HT.out
      have hR := HR.out
      refine ⟨_, _, _, _, by rw [HOo.out, HO.out]; rfl, ?_, ?_⟩
      · rw [HYy.out, HO.out]; exact wv0_at _
      · exact belSetV (belSetV (belSetV (belSetV (bel HB0.out HB1.out) (by omega)) (by omega)) (by omega)) (by omega)
    · rw [hm] at HCk
      have HO : Hid (okT x t = true) := by show okT x t = true; unfold okT; rw [hm, decide_eq_true HTn.out]; rfl
      have HLs : Hid (lsB x.wd none x.fi x.li = true) := (may_parts hm).2.2
      have hln := may_len hm
      have HLn : Hid (x.nm.length ≤ 4096 ∧ x.wd.length ≤ 4096 ∧ x.fi.length ≤ 4096) := ⟨by omega, by omega, by omega⟩
      clear hm hln r0 r1 r2 r3 g0 g1 g2 g3
      go_upto_region 3 with (first
        | (go_at_call 9; refine (HCk.out _ (Below.refl _ _)).mono ?_; rintro e w1 ⟨rfl, hb1⟩; rw [erOf_t]; have HB1 : Hid (Below W0.heap.size W0 w1) := hb1; clear hb1))
      clear b0 b1 b2 b3 x0
      have HX1 : Hid (w1.heap[E]? = some (.cells #[vn, vw, vf, .slice al x.li.length cl] 26 (0, 0))) := (HB1.out.block E lb).trans HX0.out
      obtain ⟨b0, b1, b2, b3⟩ := cells4 HX1.out
      have lb1 := Nat.lt_of_lt_of_le lb HB1.out.size
      have HU := hidV (unchanged_c x vn vw vf _ w1 (HA0.out.below HB1.out) HLn.out.1 HLn.out.2.1 HLn.out.2.2)
      go_upto_region 4 with (first
        | (go_at_call 26; go_loud (refine HU.out.mono ?_; rintro e w2 ⟨a1, k1, a2, k2, a3, k3, rfl, HV1, HV2, HV3, hb2⟩; have HB2 : Hid (Below w1.heap.size w1 w2) := hb2; clear hb2)))
      clear b0 b1 b2 b3 HU
      obtain ⟨W3, hW3⟩ : ∃ W3, W3 = w2.alloc (.cells #[.slice a1 x.nm.length k1, .slice a2 x.wd.length k2, .slice a3 x.fi.length k3, .slice none 0 0] 26) := ⟨_, rfl⟩
      rw [← hW3]
      have HB3 : Hid (Below w2.heap.size w2 W3) := by rw [hW3]; exact belA (Below.refl _ _) _
      have HO3 : Hid (W3.heap[w2.heap.size]? = some (.cells #[.slice a1 x.nm.length k1, .slice a2 x.wd.length k2, .slice a3 x.fi.length k3, .slice none 0 0] 26 (0, 0))) := by rw [hW3]; exact alAt rfl
      clear hW3
      obtain ⟨O, hOo⟩ : ∃ O, O = w2.heap.size := ⟨_, rfl⟩
      rw [← hOo] at HO3 ⊢
      have HOs : Hid (O = w2.heap.size) := hOo
      clear hOo
      have HBW : Hid (Below W0.heap.size W0 W3) := bel HB1.out (bel HB2.out HB3.out)
      have HX3 : Hid (W3.heap[E]? = some (.cells #[vn, vw, vf, .slice al x.li.length cl] 26 (0, 0))) := (HBW.out.block E lb).trans HX0.out
      have HT3 : Hid (W3.heap[T]? = some (.cells #[.int .i64 t] 3 (0, 0))) := (HBW.out.block T lt).trans HT0.out
      obtain ⟨b0, b1, b2, b3⟩ := cells4 HX3.out
      have lb3 := hLt HX3.out
      have lt3 := hLt HT3.out
      have lo3 := hLt HO3.out
      have HAh := hidV (ahead_l 29 T (fun z => decide (t ≤ z)) x.li al cl W3 (HA0.out.below HBW.out).li HLl.out (enters_of Try.func29 (by kernel_rfl) rfl) (fun W hW z => cutLate_c T z t W (one_cell ((hW T lt3).trans HT3.out))) (fun i j hij hj h => decide_eq_true (Int.le_trans (of_decide_eq_true h) (ls_times HLs.out i j hij hj))))
      go_wp2_with (first
        | (go_at_call 28; refine HAh.out.mono ?_; rintro e w4 ⟨m, v4, rfl, hml, HM4, HV4, hb4⟩; have HB4 : Hid (Below W3.heap.size W3 w4) := hb4; have HML : Hid (m ≤ x.li.length) := hml; clear hb4 hml)
        | (go_at_call 27; refine (cloneC_c v4 (x.li.take m) w4 (HV4.out _ ((HA0.out.below HBW.out).below HB4.out).li) (by have := HML.out; have := HLl.out; rw [List.length_take]; omega)).mono ?_; rintro e w5 ⟨v5, rfl, HO5, hb5⟩; rw [take_cut HLs.out t m HM4.out] at HO5; obtain ⟨a5, k5, rfl⟩ := own_slice HO5.out; have HB5 : Hid (Below w4.heap.size w4 w5) := hb5; clear hb5; have hO5 := (HB5.out.block O (Nat.lt_of_lt_of_le lo3 HB4.out.size)).trans ((HB4.out.block O lo3).trans HO3.out); obtain ⟨o0, o1, o2, o3⟩ := cells4 hO5; have f0 := Lib.frozen_of_heap hO5 0; have f1 := Lib.frozen_of_heap hO5 1; have f2 := Lib.frozen_of_heap hO5 2; have f3 := Lib.frozen_of_heap hO5 3; have hR5 := (HB5.out.block R (Nat.lt_of_lt_of_le (Nat.lt_of_lt_of_le lr HBW.out.size) HB4.out.size)).trans ((HB4.out.block R (Nat.lt_of_lt_of_le lr HBW.out.size)).trans ((HBW.out.block R lr).trans HR0.out)); obtain ⟨r0, r1, r2, r3⟩ := cells4 hR5; have g0 := Lib.frozen_of_heap hR5 0; have g1 := Lib.frozen_of_heap hR5 1; have g2 := Lib.frozen_of_heap hR5 2; have g3 := Lib.frozen_of_heap hR5 3; have lo5 := hLt hO5; have lr5 := hLt hR5; have hne : O ≠ R := (by have h1 := HOs.out; have h2 := HB2.out.size; have h3 := HB1.out.size; omega); have hne2 : R ≠ O := (fun e => hne e.symm); clear hO5 hR5))
      refine bodyPost_ret (v := .tuple #[.agg #[.slice a1 x.nm.length k1, .slice a2 x.wd.length k2, .slice a3 x.fi.length k3, .slice a5 (cutL t x.li).length k5], .int .i64 0]) (by simp [results, Try.results12, go_sem, *]) rfl ?_
      have hE := HE.out
      have hT := HT.out
      have hR := HR.out
      have s1 := HB1.out.size
      have s2 := HB2.out.size
      have s3 := HB3.out.size
      have s4 := HB4.out.size
      have hO := HOs.out
      have q1R := own_ne (b := R) HV1.out (Or.inl (by omega))
      have q1O := own_ne (b := O) HV1.out (Or.inr (by omega))
      have q2R := own_ne (b := R) HV2.out (Or.inl (by omega))
      have q2O := own_ne (b := O) HV2.out (Or.inr (by omega))
      have q3R := own_ne (b := R) HV3.out (Or.inl (by omega))
      have q3O := own_ne (b := O) HV3.out (Or.inr (by omega))
      have q5R := own_ne (b := R) HO5.out (Or.inl (by omega))
      have q5O := own_ne (b := O) HO5.out (Or.inl (by omega))
      have v1 := own_below (own_below (own_below HV1.out HB3.out) HB4.out) HB5.out
      have v2 := own_below (own_below (own_below HV2.out HB3.out) HB4.out) HB5.out
      have v3 := own_below (own_below (own_below HV3.out HB3.out) HB4.out) HB5.out
      refine ⟨_, _, _, _, by rw [HOo.out, HO.out]; rfl, ?_, ?_⟩
      · rw [HYy.out, HO.out, if_pos rfl]
        exact ⟨own_strs (own_set (own_set (own_set (own_set (own_set v1 q1O) q1R) q1R) q1R) q1R), own_intsV (own_set (own_set (own_set (own_set (own_set v2 q2O) q2R) q2R) q2R) q2R), own_strs (own_set (own_set (own_set (own_set (own_set v3 q3O) q3R) q3R) q3R) q3R), own_chs (own_set (own_set (own_set (own_set (own_set HO5.out q5O) q5R) q5R) q5R) q5R)⟩
      · have hB5 : Below w.heap.size w w5 := bel HB0.out (bel HBW.out (bel HB4.out HB5.out))
        have hw0 := HB0.out.size
        exact belSetV (belSetV (belSetV (belSetV (belSetV hB5 (by omega)) (by omega)) (by omega)) (by omega)) (by omega)
end Go.Proofs.Ytfefgldngkpgjaa
