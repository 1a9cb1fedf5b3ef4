/- Layer 19: what the document's Write tells. -/
import Derived.Test.YtodpljgajjcdoaaGreatDoorDF
namespace Go.Proofs.YtodpljgajjcdoaaGreatDoor
set_option maxRecDepth 100000
open Go.RowKit Lg Nl Go.Maps Wf Vd
set_option linter.unusedVariables false
set_option linter.unusedSimpArgs false

set_option maxHeartbeats 1000000 in
theorem rWrite_c (x : Wv) (vn vw vf vl : Value) (w : World) (hx : WvAt w vn vw vf vl x) (hz : Sz x) (hl : x.li.length ≤ 100000000) (hp : PowT w) :
    Calls Tryz.prog 15 #[.agg #[vn, vw, vf, vl]] w fun e w' => e = .returned (.tuple #[.string (S (wrT x)), .int .i64 (wrE x)]) ∧ Below w.heap.size w w' := by
  have HA : Hid (WvAt w vn vw vf vl x) := hx
  have HZ : Hid (Sz x) := hz
  have HLl : Hid (x.li.length ≤ 100000000) := hl
  obtain ⟨T, hT⟩ : ∃ T, T = S (wrT x) := ⟨_, rfl⟩
  obtain ⟨o, ho⟩ : ∃ o, o = wrE x := ⟨_, rfl⟩
  rw [← hT, ← ho]
  have HT : Hid (T = S (wrT x)) := hT
  have HOo : Hid (o = wrE x) := ho
  clear hT ho hx hz hl
  obtain ⟨W0, hW0⟩ : ∃ W0, W0 = w.alloc (.cells #[vn, vw, vf, vl] 27) := ⟨_, rfl⟩
  have HB0 : Hid (Below w.heap.size w W0) := by rw [hW0]; exact belA (Below.refl _ _) _
  have HX0 : Hid (W0.heap[w.heap.size]? = some (.cells #[vn, vw, vf, vl] 27 (0, 0))) := by rw [hW0]; exact alAt rfl
  have HA0 : Hid (WvAt W0 vn vw vf vl x) := HA.out.below HB0.out
  have HP0 : Hid (PowT W0) := hp.bel HB0.out
  clear hp
  go_enter Tryz.func15, Tryz.ntmps15
  go_upto_region 1 with fail
  rw [← hW0]
  clear hW0 HA
  obtain ⟨b0, b1, b2, b3⟩ := cells4 HX0.out
  have lb := hLt HX0.out
  generalize w.heap.size = E at HX0 b0 b1 b2 b3 lb ⊢
  have HMy : Hid (∀ W, Below W0.heap.size W0 W → Calls Tryz.prog 25 #[.agg #[vn, vw, vf, vl]] W fun e w' => e = .returned (.bool (mayW x)) ∧ Below W.heap.size W w') := fun W hW => wMay_c x vn vw vf vl W (HA0.out.below hW) HZ.out
  cases hm : mayW x
  · have HY : Hid (wrE x = 1) := by show wrE x = 1; unfold wrE; rw [hm]; rfl
    have HY2 : Hid (wrT x = []) := by show wrT x = []; unfold wrT; rw [HY.out]; rfl
    rw [hm] at HMy
    clear hm
    go_wp2_with (first
      | (go_at_call 25; refine (HMy.out _ (Below.refl _ _)).mono ?_; rintro e w1 ⟨rfl, hb1⟩))
    go_ret2
    exact ⟨by rw [HT.out, HOo.out, HY.out, HY2.out]; rfl, bel HB0.out hb1⟩
  · have HTx := hidV (fun W (hW : Below W0.heap.size W0 W) => rText_c x vn vw vf vl W (HA0.out.below hW) (nice_of hm) HZ.out HLl.out (HP0.out.bel hW))
    rw [hm] at HMy
    cases hu : undB x
    · by_cases hlg : 1048576 < (textL x).length
      · have HY : Hid (wrE x = 4) := by show wrE x = 4; unfold wrE; rw [hm, hu]; simp [hlg]
        have HY2 : Hid (wrT x = []) := by show wrT x = []; unfold wrT; rw [HY.out]; rfl
        rw [hu] at HTx
        have hsz : decide ((1048576 : Int) < ((S (textL x)).size : Int)) = true := decide_eq_true (by rw [size_S]; omega)
        clear hm hu hlg
        have HTx2 : Hid (∀ W, Below W0.heap.size W0 W → Calls Tryz.prog 26 #[.agg #[vn, vw, vf, vl]] W fun e w' => e = .returned (.tuple #[.string (S (textL x)), .bool true]) ∧ Below W.heap.size W w') := HTx.out
        clear HTx
        generalize S (textL x) = t at hsz HTx2
        go_wp2_with (first
          | (go_at_call 26; refine (HTx2.out _ hb1).mono ?_; rintro e w2 ⟨rfl, hb2⟩)
          | (go_at_call 25; refine (HMy.out _ (Below.refl _ _)).mono ?_; rintro e w1 ⟨rfl, hb1⟩; clear b0 b1 b2 b3; obtain ⟨b0, b1, b2, b3⟩ := cells4 ((hb1.block E lb).trans HX0.out); have lb1 := Nat.lt_of_lt_of_le lb hb1.size))
        go_ret2
        exact ⟨by rw [HT.out, HOo.out, HY.out, HY2.out]; rfl, bel HB0.out (bel hb1 hb2)⟩
      · have HY : Hid (wrE x = 0) := by show wrE x = 0; unfold wrE; rw [hm, hu]; simp [hlg]
        have HY2 : Hid (wrT x = textL x) := by show wrT x = _; unfold wrT; rw [if_pos HY.out]
        rw [hu] at HTx
        have hsz : decide ((1048576 : Int) < ((S (textL x)).size : Int)) = false := decide_eq_false (by rw [size_S]; omega)
        clear hm hu hlg
        have HTx2 : Hid (∀ W, Below W0.heap.size W0 W → Calls Tryz.prog 26 #[.agg #[vn, vw, vf, vl]] W fun e w' => e = .returned (.tuple #[.string (S (textL x)), .bool true]) ∧ Below W.heap.size W w') := HTx.out
        have HTt : Hid (T = S (textL x)) := by show T = _; rw [HT.out, HY2.out]
        clear HTx
        generalize S (textL x) = t at hsz HTx2 HTt
        go_wp2_with (first
          | (go_at_call 26; refine (HTx2.out _ hb1).mono ?_; rintro e w2 ⟨rfl, hb2⟩)
          | (go_at_call 25; refine (HMy.out _ (Below.refl _ _)).mono ?_; rintro e w1 ⟨rfl, hb1⟩; clear b0 b1 b2 b3; obtain ⟨b0, b1, b2, b3⟩ := cells4 ((hb1.block E lb).trans HX0.out); have lb1 := Nat.lt_of_lt_of_le lb hb1.size))
        go_ret2
        exact ⟨by rw [HTt.out, HOo.out, HY.out]; rfl, bel HB0.out (bel hb1 hb2)⟩
    · have HY : Hid (wrE x = 1) := by show wrE x = 1; unfold wrE; rw [hm, hu]; rfl
      have HY2 : Hid (wrT x = []) := by show wrT x = []; unfold wrT; rw [HY.out]; rfl
      rw [hu] at HTx
      have HTx2 : Hid (∀ W, Below W0.heap.size W0 W → Calls Tryz.prog 26 #[.agg #[vn, vw, vf, vl]] W fun e w' => e = .returned (.tuple #[.string (S []), .bool false]) ∧ Below W.heap.size W w') := HTx.out
      clear hm hu HTx
      go_wp2_with (first
        | (go_at_call 26; refine (HTx2.out _ hb1).mono ?_; rintro e w2 ⟨rfl, hb2⟩)
        | (go_at_call 25; refine (HMy.out _ (Below.refl _ _)).mono ?_; rintro e w1 ⟨rfl, hb1⟩; clear b0 b1 b2 b3; obtain ⟨b0, b1, b2, b3⟩ := cells4 ((hb1.block E lb).trans HX0.out); have lb1 := Nat.lt_of_lt_of_le lb hb1.size))
      go_ret2
      exact ⟨by rw [HT.out, HOo.out, HY.out, HY2.out]; rfl, bel HB0.out (bel hb1 hb2)⟩
end Go.Proofs.YtodpljgajjcdoaaGreatDoor
