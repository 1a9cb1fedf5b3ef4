/- Layer 7: SemaScopes' sources, evaluated: refused by nothing. -/
import Derived.Test.YtpnhefjiobnelaaNsQ
namespace Rp
open Go Lg
set_option maxRecDepth 1000000 in
theorem sc0m : ckS (scS 0 ++ scM) 700 none = true := by decide +kernel
set_option maxRecDepth 1000000 in
theorem sc1m : ckS (scS 1 ++ scM) 700 none = true := by decide +kernel
set_option maxRecDepth 1000000 in
theorem sc2m : ckS (scS 2 ++ scM) 700 none = true := by decide +kernel
set_option maxRecDepth 1000000 in
theorem sc3m : ckS (scS 3 ++ scM) 700 none = true := by decide +kernel
set_option maxRecDepth 1000000 in
theorem sc4m : ckS (scS 4 ++ scM) 700 none = true := by decide +kernel
set_option maxRecDepth 1000000 in
theorem sc5m : ckS (scS 5 ++ scM) 700 none = true := by decide +kernel
set_option maxRecDepth 1000000 in
theorem sc6m : ckS (scS 6 ++ scM) 700 none = true := by decide +kernel
set_option maxRecDepth 1000000 in
theorem sc7m : ckS (scS 7 ++ scM) 700 none = true := by decide +kernel
set_option maxRecDepth 1000000 in
theorem sc8m : ckS (scS 8 ++ scM) 700 none = true := by decide +kernel
set_option maxRecDepth 1000000 in
theorem sc9m : ckS (scS 9 ++ scM) 700 none = true := by decide +kernel
set_option maxRecDepth 1000000 in
theorem sc10m : ckS (scS 10 ++ scM) 700 none = true := by decide +kernel
set_option maxRecDepth 1000000 in
theorem sc11m : ckS (scS 11 ++ scM) 700 none = true := by decide +kernel
set_option maxRecDepth 1000000 in
theorem sc12m : ckS (scS 12 ++ scM) 700 none = true := by decide +kernel
set_option maxRecDepth 1000000 in
theorem sc13m : ckS (scS 13 ++ scM) 700 none = true := by decide +kernel
set_option maxRecDepth 1000000 in
theorem sc14m : ckS (scS 14 ++ scM) 700 none = true := by decide +kernel
set_option maxRecDepth 1000000 in
theorem sc15m : ckS (scS 15 ++ scM) 700 none = true := by decide +kernel
set_option maxRecDepth 1000000 in
theorem sc16m : ckS (scS 16 ++ scM) 700 none = true := by decide +kernel
set_option maxRecDepth 1000000 in
theorem sc17m : ckS (scS 17 ++ scM) 700 none = true := by decide +kernel
set_option maxRecDepth 1000000 in
theorem sc18m : ckS (scS 18 ++ scM) 700 none = true := by decide +kernel
set_option maxRecDepth 1000000 in
theorem sc19m : ckS (scS 19 ++ scM) 700 none = true := by decide +kernel
theorem scNm {n : Nat} (h : n < 20) : ckS (scS n ++ scM) 700 none = true := by
  match n, h with
  | 0, _ => exact sc0m
  | 1, _ => exact sc1m
  | 2, _ => exact sc2m
  | 3, _ => exact sc3m
  | 4, _ => exact sc4m
  | 5, _ => exact sc5m
  | 6, _ => exact sc6m
  | 7, _ => exact sc7m
  | 8, _ => exact sc8m
  | 9, _ => exact sc9m
  | 10, _ => exact sc10m
  | 11, _ => exact sc11m
  | 12, _ => exact sc12m
  | 13, _ => exact sc13m
  | 14, _ => exact sc14m
  | 15, _ => exact sc15m
  | 16, _ => exact sc16m
  | 17, _ => exact sc17m
  | 18, _ => exact sc18m
  | 19, _ => exact sc19m
  | n + 20, h => exact absurd h (by omega)
end Rp
