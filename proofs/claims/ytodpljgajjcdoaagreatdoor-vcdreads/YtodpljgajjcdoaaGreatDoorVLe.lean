/- Layer 18: the program's Check tells whether a waveform may be. -/
import Derived.Test.YtodpljgajjcdoaaGreatDoorVP
import Derived.Test.YtodpljgajjcdoaaGreatDoorVLc
import Derived.Test.YtodpljgajjcdoaaGreatDoorVLd
namespace Go.Proofs.YtodpljgajjcdoaaGreatDoor
set_option maxRecDepth 100000
open Go.RowKit Lg Nl Go.Maps Wf
set_option linter.unusedVariables false
set_option linter.unusedSimpArgs false

theorem may_dec (x : Wv) : mayW x = (decB x && lsB x.wd none x.fi x.li) := rfl
theorem dec_len {x : Wv} (h : decB x = true) : lenB x = true := by unfold decB at h; rw [Bool.and_eq_true] at h; exact h.1
set_option maxHeartbeats 1000000 in
theorem check_c : CheckC := by
  intro x vn vw vf vl w hx hz hbd
  have HA : Hid (WvAt w vn vw vf vl x) := hx
  have HZ : Hid (Sz x) := hz
  have HM : Hid (mayW x = (decB x && lsB x.wd none x.fi x.li)) := may_dec x
  obtain ⟨W0, hW0⟩ : ∃ W0, W0 = w.alloc (.cells #[vn, vw, vf, vl] 27) := ⟨_, rfl⟩
  have HB0 : Hid (Below w.heap.size w W0) := by rw [hW0]; exact belA (Below.refl _ _) _
  have HX0 : Hid (W0.heap[w.heap.size]? = some (.cells #[vn, vw, vf, vl] 27 (0, 0))) := by rw [hW0]; exact alAt rfl
  have HD : Hid (∀ W, Below W0.heap.size W0 W → Calls Tryz.prog 27 #[.agg #[vn, vw, vf, vl]] W fun e w' => e = .returned (.bool (decB x)) ∧ Below W.heap.size W w') := fun W hW => declares_c x vn vw vf vl W ((HA.out.below HB0.out).below hW) HZ.out
  have HC : Hid (decB x = true → ∀ W, Below W0.heap.size W0 W → Calls Tryz.prog 28 #[.agg #[vn, vw, vf, vl]] W fun e w' => e = .returned (.bool (lsB x.wd none x.fi x.li)) ∧ Below W.heap.size W w') := fun hd W hW => changes_c x vn vw vf vl W ((HA.out.below HB0.out).below hW) HZ.out (dec_len hd)
  clear hx hz hbd
  go_enter Tryz.func16, Tryz.ntmps16
  go_upto_region 1 with fail
  rw [← hW0]
  clear hW0
  obtain ⟨b0, b1, b2, b3⟩ := cells4 HX0.out
  have lb := hLt HX0.out
  generalize w.heap.size = E at HX0 b0 b1 b2 b3 lb ⊢
  cases hd : decB x
  · rw [hd] at HD HM
    have HY : Hid (erOf (mayW x) = 1) := by show erOf (mayW x) = 1; rw [HM.out]; rfl
    clear hd HC
    go_wp2_with (first
      | (go_at_call 27; refine (HD.out _ (Below.refl _ _)).mono ?_; rintro e w1 ⟨rfl, hb1⟩))
    go_ret
    exact ⟨ret_int HY.out.symm, bel HB0.out hb1⟩
  · have HC := HC.out hd
    have HC : Hid (∀ W, Below W0.heap.size W0 W → Calls Tryz.prog 28 #[.agg #[vn, vw, vf, vl]] W fun e w' => e = .returned (.bool (lsB x.wd none x.fi x.li)) ∧ Below W.heap.size W w') := HC
    rw [hd, Bool.true_and] at HM
    rw [hd] at HD
    clear hd
    cases hl : lsB x.wd none x.fi x.li
    all_goals (
      rw [hl] at HC HM
      clear hl
      go_wp2_with (first
        | (go_at_call 27; refine (HD.out _ (Below.refl _ _)).mono ?_; rintro e w1 ⟨rfl, hb1⟩; clear b0 b1 b2 b3; obtain ⟨b0, b1, b2, b3⟩ := cells4 ((hb1.block E lb).trans HX0.out); have lb1 := Nat.lt_of_lt_of_le lb hb1.size)
        | (go_at_call 28; refine (HC.out _ hb1).mono ?_; rintro e w2 ⟨rfl, hb2⟩))
      go_ret
      exact ⟨ret_int (by rw [HM.out]; rfl), bel HB0.out (bel hb1 hb2)⟩)
end Go.Proofs.YtodpljgajjcdoaaGreatDoor
