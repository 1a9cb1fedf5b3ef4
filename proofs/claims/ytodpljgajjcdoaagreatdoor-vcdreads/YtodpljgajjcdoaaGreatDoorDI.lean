/- Layer 19: awake over what the program's functions are to tell. -/
import Derived.Test.YtodpljgajjcdoaaGreatDoorDH
namespace Go.Proofs.YtodpljgajjcdoaaGreatDoor
set_option maxRecDepth 100000
open Go.RowKit Lg Nl Go.Maps Wf Vd
set_option linter.unusedVariables false
set_option linter.unusedSimpArgs false

set_option maxHeartbeats 1000000 in
set_option maxRecDepth 1000000 in
theorem awake19 (hW : WriteC) (hR : ReadA) (hC : CodeC) (w : World) (hp : PowT w) : Calls Tryz.prog 4 #[] w fun e w' => e = .returned (.bool true) ∧ Below w.heap.size w w' := by
  have HW : Hid WriteC := hW
  have HR : Hid ReadA := hR
  have HC : Hid CodeC := hC
  have HP : Hid (PowT w) := hp
  clear hW hR hC hp
  obtain ⟨W1, hW1⟩ : ∃ W1, W1 = (((((w.alloc (.cells #[.string ⟨#[97]⟩] 9)).alloc (.cells #[.int .i64 1] 3)).alloc (.cells #[.string ⟨#[120]⟩] 9)).alloc (.cells #[.int .i64 5, .int .i64 0, .string ⟨#[49]⟩] 34)).alloc (.cells #[.slice (some ⟨w.heap.size, 0, none⟩) 1 1, .slice (some ⟨w.heap.size + 1, 0, none⟩) 1 1, .slice (some ⟨w.heap.size + 1 + 1, 0, none⟩) 1 1, .slice (some ⟨w.heap.size + 1 + 1 + 1, 0, none⟩) 1 1] 27)) := ⟨_, rfl⟩
  have HB1 : Hid (Below w.heap.size w W1) := by rw [hW1]; exact belA (belA (belA (belA (belA (Below.refl _ _) _) _) _) _) _
  have HX : Hid (W1.heap[w.heap.size + 1 + 1 + 1 + 1]? = some (.cells #[.slice (some ⟨w.heap.size, 0, none⟩) 1 1, .slice (some ⟨w.heap.size + 1, 0, none⟩) 1 1, .slice (some ⟨w.heap.size + 1 + 1, 0, none⟩) 1 1, .slice (some ⟨w.heap.size + 1 + 1 + 1, 0, none⟩) 1 1] 27 (0, 0))) := by rw [hW1]; exact alAt (by simp)
  have HA : Hid (WvAt W1 (.slice (some ⟨w.heap.size, 0, none⟩) 1 1) (.slice (some ⟨w.heap.size + 1, 0, none⟩) 1 1) (.slice (some ⟨w.heap.size + 1 + 1, 0, none⟩) 1 1) (.slice (some ⟨w.heap.size + 1 + 1 + 1, 0, none⟩) 1 1) wvD) := by
    rw [hW1]
    exact wvD_at4 ((alOld (by simp <;> omega)).trans ((alOld (by simp <;> omega)).trans ((alOld (by simp <;> omega)).trans ((alOld (by simp)).trans (alAt rfl))))) ((alOld (by simp <;> omega)).trans ((alOld (by simp <;> omega)).trans ((alOld (by simp)).trans (alAt (by simp))))) ((alOld (by simp <;> omega)).trans ((alOld (by simp)).trans (alAt (by simp)))) ((alOld (by simp)).trans (alAt (by simp)))
  have HP1 : Hid (PowT W1) := HP.out.bel HB1.out
  go_enter Tryz.func4, Tryz.ntmps4
  go_upto_region 2 with fail
  rw [← hW1]
  clear hW1
  generalize w.heap.size + 1 + 1 + 1 + 1 = X at *
  generalize (Value.slice (some ⟨w.heap.size, 0, none⟩) 1 1) = a0 at *
  generalize (Value.slice (some ⟨w.heap.size + 1, 0, none⟩) 1 1) = a1 at *
  generalize (Value.slice (some ⟨w.heap.size + 1 + 1, 0, none⟩) 1 1) = a2 at *
  generalize (Value.slice (some ⟨w.heap.size + 1 + 1 + 1, 0, none⟩) 1 1) = a3 at *
  obtain ⟨x0, x1, x2, x3⟩ := cells4 HX.out
  have lx := hLt HX.out
  go_upto_region 3 with (first
    | (go_at_call 8; refine (writeA HW.out _ _ _ _ _ HA.out HP1.out).mono ?_; rintro e w2 ⟨rfl, hb2⟩))
  have HB2 : Hid (Below W1.heap.size W1 w2) := hb2
  have HA2 : Hid (WvAt w2 a0 a1 a2 a3 wvD) := HA.out.below HB2.out
  have HP2 : Hid (PowT w2) := HP1.out.bel HB2.out
  have HX2 : Hid (w2.heap[X]? = some (.cells #[a0, a1, a2, a3] 27 (0, 0))) := (HB2.out.block X lx).trans HX.out
  clear hb2 lx x0 x1 x2 x3
  have lx := hLt HX2.out
  go_upto_region 4 with (first
    | (go_at_call 5; refine (HR.out w2 HP2.out).mono ?_; rintro e w3 ⟨an, cn, aw_, cw, af, cf, al, cl, rfl, HV, hb3⟩))
  obtain ⟨W3, hW3⟩ : ∃ W3, W3 = w3.alloc (.cells #[.slice an 1 cn, .slice aw_ 1 cw, .slice af 1 cf, .slice al 1 cl] 27) := ⟨_, rfl⟩
  rw [← hW3]
  have HB3 : Hid (Below w2.heap.size w2 W3) := by rw [hW3]; exact belA hb3 _
  have HY3 : Hid (W3.heap[w3.heap.size]? = some (.cells #[.slice an 1 cn, .slice aw_ 1 cw, .slice af 1 cf, .slice al 1 cl] 27 (0, 0))) := by rw [hW3]; exact alAt rfl
  have HV3 : Hid (WvAt W3 (.slice an 1 cn) (.slice aw_ 1 cw) (.slice af 1 cf) (.slice al 1 cl) wvD) := by rw [hW3]; exact HV.out.below (belA (Below.refl _ _) _)
  clear hW3 hb3 HV
  generalize w3.heap.size = Y at *
  have HA3 : Hid (WvAt W3 a0 a1 a2 a3 wvD) := HA2.out.below HB3.out
  have HX3 : Hid (W3.heap[X]? = some (.cells #[a0, a1, a2, a3] 27 (0, 0))) := (HB3.out.block X lx).trans HX2.out
  clear lx
  have lx := hLt HX3.out
  have ly := hLt HY3.out
  go_upto_region 5 with (first
    | (go_at_call 9; refine (codeA HC.out W3).mono ?_; rintro e w4 ⟨rfl, hb4⟩))
  have HB4 : Hid (Below W3.heap.size W3 w4) := hb4
  clear hb4
  have HA4 : Hid (WvAt w4 a0 a1 a2 a3 wvD) := HA3.out.below HB4.out
  have HV4 : Hid (WvAt w4 (.slice an 1 cn) (.slice aw_ 1 cw) (.slice af 1 cf) (.slice al 1 cl) wvD) := HV3.out.below HB4.out
  obtain ⟨x0, x1, x2, x3⟩ := cells4 ((HB4.out.block X lx).trans HX3.out)
  obtain ⟨y0, y1, y2, y3⟩ := cells4 ((HB4.out.block Y ly).trans HY3.out)
  have hs := txD_size
  have he := txD_end
  generalize S txD = T at *
  have HS : Hid (T.size = 124) := hs
  have HE : Hid (T.extract 118 124 = ⟨#[35, 53, 10, 49, 33, 10]⟩) := he
  clear he
  go_wp2_with (first
    | (go_at_call 7; refine (sameW_c wvD wvD _ _ _ _ _ _ _ _ w4 HV4.out HA4.out wvD_bd).mono ?_; rw [wvD_same]; rintro e w5 ⟨rfl, hb5⟩))
  have e1 : ((T.extract 118 124).toList == [35, 53, 10, 49, 33, 10]) = true := by rw [HE.out]; decide +kernel
  rw [e1]
  go_ret
  exact ⟨rfl, bel HB1.out (bel HB2.out (bel HB3.out (bel HB4.out hb5)))⟩
end Go.Proofs.YtodpljgajjcdoaaGreatDoor
