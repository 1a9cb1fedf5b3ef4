/- Layer 7: SemaWays' sources, evaluated: part c. -/
import Derived.Test.YtpnhefjiobnelaaNtG
namespace Rp
open Go Lg
set_option maxRecDepth 1000000 in
theorem wy2_1 : ckG (alM 300) (wyS 2 1 ++ scM) 300 (wyW 2 1) = true := by decide +kernel
set_option maxRecDepth 1000000 in
theorem wy4_0 : ckG (alM 300) (wyS 4 0 ++ scM) 300 (wyW 4 0) = true := by decide +kernel
set_option maxRecDepth 1000000 in
theorem wy4_4 : ckG (alM 300) (wyS 4 4 ++ scM) 300 (wyW 4 4) = true := by decide +kernel
set_option maxRecDepth 1000000 in
theorem wy5_2 : ckG (alM 300) (wyS 5 2 ++ scM) 300 (wyW 5 2) = true := by decide +kernel
set_option maxRecDepth 1000000 in
theorem wy6_0 : ckG (alM 300) (wyS 6 0 ++ scM) 300 (wyW 6 0) = true := by decide +kernel
set_option maxRecDepth 1000000 in
theorem wy6_4 : ckG (alM 300) (wyS 6 4 ++ scM) 300 (wyW 6 4) = true := by decide +kernel
set_option maxRecDepth 1000000 in
theorem wy7_0 : ckG (alM 300) (wyS 7 0 ++ scM) 300 (wyW 7 0) = true := by decide +kernel
set_option maxRecDepth 1000000 in
theorem wy7_4 : ckG (alM 300) (wyS 7 4 ++ scM) 300 (wyW 7 4) = true := by decide +kernel
set_option maxRecDepth 1000000 in
theorem wy8_1 : ckG (alM 300) (wyS 8 1 ++ scM) 300 (wyW 8 1) = true := by decide +kernel
set_option maxRecDepth 1000000 in
theorem wy8_5 : ckG (alM 300) (wyS 8 5 ++ scM) 300 (wyW 8 5) = true := by decide +kernel
set_option maxRecDepth 1000000 in
theorem wy9_0 : ckG (alM 300) (wyS 9 0 ++ scM) 300 (wyW 9 0) = true := by decide +kernel
set_option maxRecDepth 1000000 in
theorem wy9_3 : ckG (alM 300) (wyS 9 3 ++ scM) 300 (wyW 9 3) = true := by decide +kernel
set_option maxRecDepth 1000000 in
theorem wy9_7 : ckG (alM 300) (wyS 9 7 ++ scM) 300 (wyW 9 7) = true := by decide +kernel
set_option maxRecDepth 1000000 in
theorem wy10_3 : ckG (alM 300) (wyS 10 3 ++ scM) 300 (wyW 10 3) = true := by decide +kernel
set_option maxRecDepth 1000000 in
theorem wy10_7 : ckG (alM 300) (wyS 10 7 ++ scM) 300 (wyW 10 7) = true := by decide +kernel
set_option maxRecDepth 1000000 in
theorem wy11_1 : ckG (alM 300) (wyS 11 1 ++ scM) 300 (wyW 11 1) = true := by decide +kernel
set_option maxRecDepth 1000000 in
theorem wy11_3 : ckG (alM 300) (wyS 11 3 ++ scM) 300 (wyW 11 3) = true := by decide +kernel
set_option maxRecDepth 1000000 in
theorem wy11_7 : ckG (alM 300) (wyS 11 7 ++ scM) 300 (wyW 11 7) = true := by decide +kernel
set_option maxRecDepth 1000000 in
theorem wy11_11 : ckG (alM 300) (wyS 11 11 ++ scM) 300 (wyW 11 11) = true := by decide +kernel
set_option maxRecDepth 1000000 in
theorem wy12_2 : ckG (alM 300) (wyS 12 2 ++ scM) 300 (wyW 12 2) = true := by decide +kernel
set_option maxRecDepth 1000000 in
theorem wy12_6 : ckG (alM 300) (wyS 12 6 ++ scM) 300 (wyW 12 6) = true := by decide +kernel
set_option maxRecDepth 1000000 in
theorem wy12_10 : ckG (alM 300) (wyS 12 10 ++ scM) 300 (wyW 12 10) = true := by decide +kernel
set_option maxRecDepth 1000000 in
theorem wy13_4 : ckG (alM 300) (wyS 13 4 ++ scM) 300 (wyW 13 4) = true := by decide +kernel
set_option maxRecDepth 1000000 in
theorem wy13_8 : ckG (alM 300) (wyS 13 8 ++ scM) 300 (wyW 13 8) = true := by decide +kernel
set_option maxRecDepth 1000000 in
theorem wy13_12 : ckG (alM 300) (wyS 13 12 ++ scM) 300 (wyW 13 12) = true := by decide +kernel
set_option maxRecDepth 1000000 in
theorem wy14_2 : ckG (alM 300) (wyS 14 2 ++ scM) 300 (wyW 14 2) = true := by decide +kernel
set_option maxRecDepth 1000000 in
theorem wy14_6 : ckG (alM 300) (wyS 14 6 ++ scM) 300 (wyW 14 6) = true := by decide +kernel
set_option maxRecDepth 1000000 in
theorem wy14_10 : ckG (alM 300) (wyS 14 10 ++ scM) 300 (wyW 14 10) = true := by decide +kernel
set_option maxRecDepth 1000000 in
theorem wy14_14 : ckG (alM 300) (wyS 14 14 ++ scM) 300 (wyW 14 14) = true := by decide +kernel
end Rp
