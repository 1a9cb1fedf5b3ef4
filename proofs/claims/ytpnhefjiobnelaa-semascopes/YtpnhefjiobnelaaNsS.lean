/- Layer 7: SemaScopes' sources, evaluated: driven twice. -/
import Derived.Test.YtpnhefjiobnelaaNsQ
namespace Rp
open Go Lg
set_option maxRecDepth 1000000 in
theorem sc0a : ckS (scS 0 ++ scA) 700 (some ((scS 0).length, 73)) = true := by decide +kernel
set_option maxRecDepth 1000000 in
theorem sc1a : ckS (scS 1 ++ scA) 700 (some ((scS 1).length, 73)) = true := by decide +kernel
set_option maxRecDepth 1000000 in
theorem sc2a : ckS (scS 2 ++ scA) 700 (some ((scS 2).length, 73)) = true := by decide +kernel
set_option maxRecDepth 1000000 in
theorem sc3a : ckS (scS 3 ++ scA) 700 (some ((scS 3).length, 73)) = true := by decide +kernel
set_option maxRecDepth 1000000 in
theorem sc4a : ckS (scS 4 ++ scA) 700 (some ((scS 4).length, 73)) = true := by decide +kernel
set_option maxRecDepth 1000000 in
theorem sc5a : ckS (scS 5 ++ scA) 700 (some ((scS 5).length, 73)) = true := by decide +kernel
set_option maxRecDepth 1000000 in
theorem sc6a : ckS (scS 6 ++ scA) 700 (some ((scS 6).length, 73)) = true := by decide +kernel
set_option maxRecDepth 1000000 in
theorem sc7a : ckS (scS 7 ++ scA) 700 (some ((scS 7).length, 73)) = true := by decide +kernel
set_option maxRecDepth 1000000 in
theorem sc8a : ckS (scS 8 ++ scA) 700 (some ((scS 8).length, 73)) = true := by decide +kernel
set_option maxRecDepth 1000000 in
theorem sc9a : ckS (scS 9 ++ scA) 700 (some ((scS 9).length, 73)) = true := by decide +kernel
set_option maxRecDepth 1000000 in
theorem sc10a : ckS (scS 10 ++ scA) 700 (some ((scS 10).length, 73)) = true := by decide +kernel
set_option maxRecDepth 1000000 in
theorem sc11a : ckS (scS 11 ++ scA) 700 (some ((scS 11).length, 73)) = true := by decide +kernel
set_option maxRecDepth 1000000 in
theorem sc12a : ckS (scS 12 ++ scA) 700 (some ((scS 12).length, 73)) = true := by decide +kernel
set_option maxRecDepth 1000000 in
theorem sc13a : ckS (scS 13 ++ scA) 700 (some ((scS 13).length, 73)) = true := by decide +kernel
set_option maxRecDepth 1000000 in
theorem sc14a : ckS (scS 14 ++ scA) 700 (some ((scS 14).length, 73)) = true := by decide +kernel
set_option maxRecDepth 1000000 in
theorem sc15a : ckS (scS 15 ++ scA) 700 (some ((scS 15).length, 73)) = true := by decide +kernel
set_option maxRecDepth 1000000 in
theorem sc16a : ckS (scS 16 ++ scA) 700 (some ((scS 16).length, 73)) = true := by decide +kernel
set_option maxRecDepth 1000000 in
theorem sc17a : ckS (scS 17 ++ scA) 700 (some ((scS 17).length, 73)) = true := by decide +kernel
set_option maxRecDepth 1000000 in
theorem sc18a : ckS (scS 18 ++ scA) 700 (some ((scS 18).length, 73)) = true := by decide +kernel
set_option maxRecDepth 1000000 in
theorem sc19a : ckS (scS 19 ++ scA) 700 (some ((scS 19).length, 73)) = true := by decide +kernel
theorem scNa {n : Nat} (h : n < 20) : ckS (scS n ++ scA) 700 (some ((scS n).length, 73)) = true := by
  match n, h with
  | 0, _ => exact sc0a
  | 1, _ => exact sc1a
  | 2, _ => exact sc2a
  | 3, _ => exact sc3a
  | 4, _ => exact sc4a
  | 5, _ => exact sc5a
  | 6, _ => exact sc6a
  | 7, _ => exact sc7a
  | 8, _ => exact sc8a
  | 9, _ => exact sc9a
  | 10, _ => exact sc10a
  | 11, _ => exact sc11a
  | 12, _ => exact sc12a
  | 13, _ => exact sc13a
  | 14, _ => exact sc14a
  | 15, _ => exact sc15a
  | 16, _ => exact sc16a
  | 17, _ => exact sc17a
  | 18, _ => exact sc18a
  | 19, _ => exact sc19a
  | n + 20, h => exact absurd h (by omega)
end Rp
