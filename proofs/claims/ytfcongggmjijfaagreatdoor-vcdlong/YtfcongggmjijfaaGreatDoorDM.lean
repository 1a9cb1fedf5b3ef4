/- Layer 19: VcdLong's vectors of 256 bits. -/
import Derived.Test.YtfcongggmjijfaaGreatDoorDL
import Derived.Handy
namespace Go.Proofs.YtfcongggmjijfaaGreatDoor
set_option maxRecDepth 100000
open Go.RowKit Lg Nl Go.Maps Wf Vd
set_option linter.unusedVariables false
set_option linter.unusedSimpArgs false

def wdT (b : UInt8) : List UInt8 := List.replicate 256 b
theorem wide_row {w : World} {g i : Nat} {b : UInt8} (h : w.rowIs g 5 256 (fun q => .int .u8 (if q < i then b.toNat else 0))) : (w.setCell ⟨g, i, none⟩ (.int .u8 b.toNat)).rowIs g 5 256 (fun q => .int .u8 (if q < i + 1 then b.toNat else 0)) := by
  refine World.rowIs.congr (World.rowIs.set h i _) (fun q hq => ?_)
  show (if q = i then Value.int .u8 (b.toNat : Int) else .int .u8 (if q < i then b.toNat else 0)) = .int .u8 (if q < i + 1 then b.toNat else 0)
  by_cases h1 : q = i
  · rw [if_pos h1, if_pos (by omega)]
  · rw [if_neg h1]
    by_cases h2 : q < i
    · rw [if_pos h2, if_pos (by omega)]
    · rw [if_neg h2, if_neg (by omega)]
theorem rep_getD (n i : Nat) (b : UInt8) (h : i < n) : ((List.replicate n b).map fun b => (b.toNat : Int)).getD i 0 = b.toNat := by
  simp [List.getD_eq_getElem?_getD, List.getElem?_map, List.getElem?_replicate, h]
theorem make256 (w : World) : (Instr.makeSlice 39 (.int .i64 256) (.int .i64 256)).run Tryz.prog w = .ok (.slice (some ⟨w.heap.size, 0, none⟩) 256 256) (w.alloc (.cells (madeCells #[.int .u8 0] 256) 5)) :=
  run_make_row' (P := Tryz.prog) 39 5 (.int .u8 0) 1 Tryz.underlying39 (by kernel_rfl) rfl .i64 .i64 256 (by omega) (by omega) w
theorem wide_conv {w : World} {g : Nat} {b : UInt8} (h : w.rowIs g 5 256 (fun q => .int .u8 (if q < 256 then b.toNat else 0))) :
    (convert 39 9 (.slice (some ⟨g, 0, none⟩) 256 256)).run Tryz.prog w = .ok (.string (S (wdT b))) w := by
  have e := run_convert_bytes_arg w 39 5 Tryz.underlying39 Tryz.underlying5 g 0 256 256 ((wdT b).map fun b => (b.toNat : Int)) (by unfold wdT; rw [List.length_map, List.length_replicate]) (fun i hi => by
      rw [Nat.zero_add, h.cell hi, if_pos hi]
      exact congrArg (fun z => some (Value.int .u8 z)) (rep_getD 256 i b hi).symm) 9 Tryz.underlying9
  rw [e, strNums]
set_option maxRecDepth 100000 in
set_option maxHeartbeats 1000000 in
theorem wide_c (b : UInt8) (w : World) : Calls Tryz.prog 12 #[.int .u8 b.toNat] w fun e w' => e = .returned (.string (S (wdT b))) ∧ Below w.heap.size w w' := by
  have hmk := make256
  go_enter Tryz.func12, Tryz.ntmps12
  go_wp2_with fail
  go_loopw [4] (fun s3 w2 => ∃ (i : Nat), i ≤ 256 ∧ s3 = .int .i64 i ∧ Hid (Below w.heap.size w w2) ∧ Hid (w2.rowIs w.heap.size 5 256 (fun q => .int .u8 (if q < i then b.toNat else 0)))) (fun s3 w2 => 256 - (intOf s3).toNat)
  case atStart => exact ⟨0, Nat.zero_le _, rfl, belA (Below.refl _ _) _, World.rowIs.congr (World.rowIs_made _ _ _ _) (fun q _ => rfl)⟩
  case round =>
    obtain ⟨i, hi, rfl, HW, HQ⟩ := hrel
    by_cases hlt : i < 256
    · have i1 : (0 : Int) ≤ (i : Int) := by omega
      have i2 : (i : Int) < (256 : Int) := by omega
      have y0 := HQ.out.cell hlt
      have yf := HQ.out.frozen i
      go_wp2_with fail
      all_goals
        go_roundw
        case rel => exact ⟨i + 1, hlt, by go_num, HW.out.setCell (Nat.le_refl _) _, wide_row HQ.out⟩
        case measure => simp [intOf]; omega
    · obtain rfl : i = 256 := by omega
      have hcv := wide_conv HQ.out
      go_wp2_with fail
      go_ret
      exact ⟨rfl, HW.out⟩
end Go.Proofs.YtfcongggmjijfaaGreatDoor
