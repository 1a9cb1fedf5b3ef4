/- Layer 7: SemaWays' sources, evaluated: part a. -/
import Derived.Test.YtpnhefjiobnelaaNtG
namespace Rp
open Go Lg
set_option maxRecDepth 1000000 in
theorem wy1_0 : ckG (alM 300) (wyS 1 0 ++ scM) 300 (wyW 1 0) = true := by decide +kernel
set_option maxRecDepth 1000000 in
theorem wy3_1 : ckG (alM 300) (wyS 3 1 ++ scM) 300 (wyW 3 1) = true := by decide +kernel
set_option maxRecDepth 1000000 in
theorem wy3_3 : ckG (alM 300) (wyS 3 3 ++ scM) 300 (wyW 3 3) = true := by decide +kernel
set_option maxRecDepth 1000000 in
theorem wy4_2 : ckG (alM 300) (wyS 4 2 ++ scM) 300 (wyW 4 2) = true := by decide +kernel
set_option maxRecDepth 1000000 in
theorem wy5_4 : ckG (alM 300) (wyS 5 4 ++ scM) 300 (wyW 5 4) = true := by decide +kernel
set_option maxRecDepth 1000000 in
theorem wy6_2 : ckG (alM 300) (wyS 6 2 ++ scM) 300 (wyW 6 2) = true := by decide +kernel
set_option maxRecDepth 1000000 in
theorem wy6_6 : ckG (alM 300) (wyS 6 6 ++ scM) 300 (wyW 6 6) = true := by decide +kernel
set_option maxRecDepth 1000000 in
theorem wy7_2 : ckG (alM 300) (wyS 7 2 ++ scM) 300 (wyW 7 2) = true := by decide +kernel
set_option maxRecDepth 1000000 in
theorem wy7_6 : ckG (alM 300) (wyS 7 6 ++ scM) 300 (wyW 7 6) = true := by decide +kernel
set_option maxRecDepth 1000000 in
theorem wy8_3 : ckG (alM 300) (wyS 8 3 ++ scM) 300 (wyW 8 3) = true := by decide +kernel
set_option maxRecDepth 1000000 in
theorem wy8_7 : ckG (alM 300) (wyS 8 7 ++ scM) 300 (wyW 8 7) = true := by decide +kernel
set_option maxRecDepth 1000000 in
theorem wy9_2 : ckG (alM 300) (wyS 9 2 ++ scM) 300 (wyW 9 2) = true := by decide +kernel
set_option maxRecDepth 1000000 in
theorem wy9_5 : ckG (alM 300) (wyS 9 5 ++ scM) 300 (wyW 9 5) = true := by decide +kernel
set_option maxRecDepth 1000000 in
theorem wy9_9 : ckG (alM 300) (wyS 9 9 ++ scM) 300 (wyW 9 9) = true := by decide +kernel
set_option maxRecDepth 1000000 in
theorem wy10_1 : ckG (alM 300) (wyS 10 1 ++ scM) 300 (wyW 10 1) = true := by decide +kernel
set_option maxRecDepth 1000000 in
theorem wy10_5 : ckG (alM 300) (wyS 10 5 ++ scM) 300 (wyW 10 5) = true := by decide +kernel
set_option maxRecDepth 1000000 in
theorem wy10_9 : ckG (alM 300) (wyS 10 9 ++ scM) 300 (wyW 10 9) = true := by decide +kernel
set_option maxRecDepth 1000000 in
theorem wy11_5 : ckG (alM 300) (wyS 11 5 ++ scM) 300 (wyW 11 5) = true := by decide +kernel
set_option maxRecDepth 1000000 in
theorem wy11_9 : ckG (alM 300) (wyS 11 9 ++ scM) 300 (wyW 11 9) = true := by decide +kernel
set_option maxRecDepth 1000000 in
theorem wy12_0 : ckG (alM 300) (wyS 12 0 ++ scM) 300 (wyW 12 0) = true := by decide +kernel
set_option maxRecDepth 1000000 in
theorem wy12_4 : ckG (alM 300) (wyS 12 4 ++ scM) 300 (wyW 12 4) = true := by decide +kernel
set_option maxRecDepth 1000000 in
theorem wy12_8 : ckG (alM 300) (wyS 12 8 ++ scM) 300 (wyW 12 8) = true := by decide +kernel
set_option maxRecDepth 1000000 in
theorem wy12_12 : ckG (alM 300) (wyS 12 12 ++ scM) 300 (wyW 12 12) = true := by decide +kernel
set_option maxRecDepth 1000000 in
theorem wy13_2 : ckG (alM 300) (wyS 13 2 ++ scM) 300 (wyW 13 2) = true := by decide +kernel
set_option maxRecDepth 1000000 in
theorem wy13_6 : ckG (alM 300) (wyS 13 6 ++ scM) 300 (wyW 13 6) = true := by decide +kernel
set_option maxRecDepth 1000000 in
theorem wy13_10 : ckG (alM 300) (wyS 13 10 ++ scM) 300 (wyW 13 10) = true := by decide +kernel
set_option maxRecDepth 1000000 in
theorem wy14_0 : ckG (alM 300) (wyS 14 0 ++ scM) 300 (wyW 14 0) = true := by decide +kernel
set_option maxRecDepth 1000000 in
theorem wy14_4 : ckG (alM 300) (wyS 14 4 ++ scM) 300 (wyW 14 4) = true := by decide +kernel
set_option maxRecDepth 1000000 in
theorem wy14_8 : ckG (alM 300) (wyS 14 8 ++ scM) 300 (wyW 14 8) = true := by decide +kernel
set_option maxRecDepth 1000000 in
theorem wy14_12 : ckG (alM 300) (wyS 14 12 ++ scM) 300 (wyW 14 12) = true := by decide +kernel
end Rp
