/- Layer 7: SemaWays' sources, evaluated: part b. -/
import Derived.Test.YtpnhefjiobnelaaNtG
namespace Rp
open Go Lg
set_option maxRecDepth 1000000 in
theorem wy1_1 : ckG (alM 300) (wyS 1 1 ++ scM) 300 (wyW 1 1) = true := by decide +kernel
set_option maxRecDepth 1000000 in
theorem wy2_0 : ckG (alM 300) (wyS 2 0 ++ scM) 300 (wyW 2 0) = true := by decide +kernel
set_option maxRecDepth 1000000 in
theorem wy4_3 : ckG (alM 300) (wyS 4 3 ++ scM) 300 (wyW 4 3) = true := by decide +kernel
set_option maxRecDepth 1000000 in
theorem wy5_0 : ckG (alM 300) (wyS 5 0 ++ scM) 300 (wyW 5 0) = true := by decide +kernel
set_option maxRecDepth 1000000 in
theorem wy5_1 : ckG (alM 300) (wyS 5 1 ++ scM) 300 (wyW 5 1) = true := by decide +kernel
set_option maxRecDepth 1000000 in
theorem wy5_5 : ckG (alM 300) (wyS 5 5 ++ scM) 300 (wyW 5 5) = true := by decide +kernel
set_option maxRecDepth 1000000 in
theorem wy6_3 : ckG (alM 300) (wyS 6 3 ++ scM) 300 (wyW 6 3) = true := by decide +kernel
set_option maxRecDepth 1000000 in
theorem wy7_3 : ckG (alM 300) (wyS 7 3 ++ scM) 300 (wyW 7 3) = true := by decide +kernel
set_option maxRecDepth 1000000 in
theorem wy7_7 : ckG (alM 300) (wyS 7 7 ++ scM) 300 (wyW 7 7) = true := by decide +kernel
set_option maxRecDepth 1000000 in
theorem wy8_0 : ckG (alM 300) (wyS 8 0 ++ scM) 300 (wyW 8 0) = true := by decide +kernel
set_option maxRecDepth 1000000 in
theorem wy8_4 : ckG (alM 300) (wyS 8 4 ++ scM) 300 (wyW 8 4) = true := by decide +kernel
set_option maxRecDepth 1000000 in
theorem wy8_8 : ckG (alM 300) (wyS 8 8 ++ scM) 300 (wyW 8 8) = true := by decide +kernel
set_option maxRecDepth 1000000 in
theorem wy9_6 : ckG (alM 300) (wyS 9 6 ++ scM) 300 (wyW 9 6) = true := by decide +kernel
set_option maxRecDepth 1000000 in
theorem wy10_2 : ckG (alM 300) (wyS 10 2 ++ scM) 300 (wyW 10 2) = true := by decide +kernel
set_option maxRecDepth 1000000 in
theorem wy10_6 : ckG (alM 300) (wyS 10 6 ++ scM) 300 (wyW 10 6) = true := by decide +kernel
set_option maxRecDepth 1000000 in
theorem wy10_10 : ckG (alM 300) (wyS 10 10 ++ scM) 300 (wyW 10 10) = true := by decide +kernel
set_option maxRecDepth 1000000 in
theorem wy11_0 : ckG (alM 300) (wyS 11 0 ++ scM) 300 (wyW 11 0) = true := by decide +kernel
set_option maxRecDepth 1000000 in
theorem wy11_2 : ckG (alM 300) (wyS 11 2 ++ scM) 300 (wyW 11 2) = true := by decide +kernel
set_option maxRecDepth 1000000 in
theorem wy11_6 : ckG (alM 300) (wyS 11 6 ++ scM) 300 (wyW 11 6) = true := by decide +kernel
set_option maxRecDepth 1000000 in
theorem wy11_10 : ckG (alM 300) (wyS 11 10 ++ scM) 300 (wyW 11 10) = true := by decide +kernel
set_option maxRecDepth 1000000 in
theorem wy12_1 : ckG (alM 300) (wyS 12 1 ++ scM) 300 (wyW 12 1) = true := by decide +kernel
set_option maxRecDepth 1000000 in
theorem wy12_5 : ckG (alM 300) (wyS 12 5 ++ scM) 300 (wyW 12 5) = true := by decide +kernel
set_option maxRecDepth 1000000 in
theorem wy12_9 : ckG (alM 300) (wyS 12 9 ++ scM) 300 (wyW 12 9) = true := by decide +kernel
set_option maxRecDepth 1000000 in
theorem wy13_3 : ckG (alM 300) (wyS 13 3 ++ scM) 300 (wyW 13 3) = true := by decide +kernel
set_option maxRecDepth 1000000 in
theorem wy13_7 : ckG (alM 300) (wyS 13 7 ++ scM) 300 (wyW 13 7) = true := by decide +kernel
set_option maxRecDepth 1000000 in
theorem wy13_11 : ckG (alM 300) (wyS 13 11 ++ scM) 300 (wyW 13 11) = true := by decide +kernel
set_option maxRecDepth 1000000 in
theorem wy14_1 : ckG (alM 300) (wyS 14 1 ++ scM) 300 (wyW 14 1) = true := by decide +kernel
set_option maxRecDepth 1000000 in
theorem wy14_5 : ckG (alM 300) (wyS 14 5 ++ scM) 300 (wyW 14 5) = true := by decide +kernel
set_option maxRecDepth 1000000 in
theorem wy14_9 : ckG (alM 300) (wyS 14 9 ++ scM) 300 (wyW 14 9) = true := by decide +kernel
set_option maxRecDepth 1000000 in
theorem wy14_13 : ckG (alM 300) (wyS 14 13 ++ scM) 300 (wyW 14 13) = true := by decide +kernel
end Rp
