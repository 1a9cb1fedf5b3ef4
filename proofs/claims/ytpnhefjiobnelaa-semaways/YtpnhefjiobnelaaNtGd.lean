/- Layer 7: SemaWays' sources, evaluated: part d. -/
import Derived.Test.YtpnhefjiobnelaaNtG
namespace Rp
open Go Lg
set_option maxRecDepth 1000000 in
theorem wy2_2 : ckG (alM 300) (wyS 2 2 ++ scM) 300 (wyW 2 2) = true := by decide +kernel
set_option maxRecDepth 1000000 in
theorem wy3_0 : ckG (alM 300) (wyS 3 0 ++ scM) 300 (wyW 3 0) = true := by decide +kernel
set_option maxRecDepth 1000000 in
theorem wy3_2 : ckG (alM 300) (wyS 3 2 ++ scM) 300 (wyW 3 2) = true := by decide +kernel
set_option maxRecDepth 1000000 in
theorem wy4_1 : ckG (alM 300) (wyS 4 1 ++ scM) 300 (wyW 4 1) = true := by decide +kernel
set_option maxRecDepth 1000000 in
theorem wy5_3 : ckG (alM 300) (wyS 5 3 ++ scM) 300 (wyW 5 3) = true := by decide +kernel
set_option maxRecDepth 1000000 in
theorem wy6_1 : ckG (alM 300) (wyS 6 1 ++ scM) 300 (wyW 6 1) = true := by decide +kernel
set_option maxRecDepth 1000000 in
theorem wy6_5 : ckG (alM 300) (wyS 6 5 ++ scM) 300 (wyW 6 5) = true := by decide +kernel
set_option maxRecDepth 1000000 in
theorem wy7_1 : ckG (alM 300) (wyS 7 1 ++ scM) 300 (wyW 7 1) = true := by decide +kernel
set_option maxRecDepth 1000000 in
theorem wy7_5 : ckG (alM 300) (wyS 7 5 ++ scM) 300 (wyW 7 5) = true := by decide +kernel
set_option maxRecDepth 1000000 in
theorem wy8_2 : ckG (alM 300) (wyS 8 2 ++ scM) 300 (wyW 8 2) = true := by decide +kernel
set_option maxRecDepth 1000000 in
theorem wy8_6 : ckG (alM 300) (wyS 8 6 ++ scM) 300 (wyW 8 6) = true := by decide +kernel
set_option maxRecDepth 1000000 in
theorem wy9_1 : ckG (alM 300) (wyS 9 1 ++ scM) 300 (wyW 9 1) = true := by decide +kernel
set_option maxRecDepth 1000000 in
theorem wy9_4 : ckG (alM 300) (wyS 9 4 ++ scM) 300 (wyW 9 4) = true := by decide +kernel
set_option maxRecDepth 1000000 in
theorem wy9_8 : ckG (alM 300) (wyS 9 8 ++ scM) 300 (wyW 9 8) = true := by decide +kernel
set_option maxRecDepth 1000000 in
theorem wy10_0 : ckG (alM 300) (wyS 10 0 ++ scM) 300 (wyW 10 0) = true := by decide +kernel
set_option maxRecDepth 1000000 in
theorem wy10_4 : ckG (alM 300) (wyS 10 4 ++ scM) 300 (wyW 10 4) = true := by decide +kernel
set_option maxRecDepth 1000000 in
theorem wy10_8 : ckG (alM 300) (wyS 10 8 ++ scM) 300 (wyW 10 8) = true := by decide +kernel
set_option maxRecDepth 1000000 in
theorem wy11_4 : ckG (alM 300) (wyS 11 4 ++ scM) 300 (wyW 11 4) = true := by decide +kernel
set_option maxRecDepth 1000000 in
theorem wy11_8 : ckG (alM 300) (wyS 11 8 ++ scM) 300 (wyW 11 8) = true := by decide +kernel
set_option maxRecDepth 1000000 in
theorem wy12_3 : ckG (alM 300) (wyS 12 3 ++ scM) 300 (wyW 12 3) = true := by decide +kernel
set_option maxRecDepth 1000000 in
theorem wy12_7 : ckG (alM 300) (wyS 12 7 ++ scM) 300 (wyW 12 7) = true := by decide +kernel
set_option maxRecDepth 1000000 in
theorem wy12_11 : ckG (alM 300) (wyS 12 11 ++ scM) 300 (wyW 12 11) = true := by decide +kernel
set_option maxRecDepth 1000000 in
theorem wy13_0 : ckG (alM 300) (wyS 13 0 ++ scM) 300 (wyW 13 0) = true := by decide +kernel
set_option maxRecDepth 1000000 in
theorem wy13_1 : ckG (alM 300) (wyS 13 1 ++ scM) 300 (wyW 13 1) = true := by decide +kernel
set_option maxRecDepth 1000000 in
theorem wy13_5 : ckG (alM 300) (wyS 13 5 ++ scM) 300 (wyW 13 5) = true := by decide +kernel
set_option maxRecDepth 1000000 in
theorem wy13_9 : ckG (alM 300) (wyS 13 9 ++ scM) 300 (wyW 13 9) = true := by decide +kernel
set_option maxRecDepth 1000000 in
theorem wy13_13 : ckG (alM 300) (wyS 13 13 ++ scM) 300 (wyW 13 13) = true := by decide +kernel
set_option maxRecDepth 1000000 in
theorem wy14_3 : ckG (alM 300) (wyS 14 3 ++ scM) 300 (wyW 14 3) = true := by decide +kernel
set_option maxRecDepth 1000000 in
theorem wy14_7 : ckG (alM 300) (wyS 14 7 ++ scM) 300 (wyW 14 7) = true := by decide +kernel
set_option maxRecDepth 1000000 in
theorem wy14_11 : ckG (alM 300) (wyS 14 11 ++ scM) 300 (wyW 14 11) = true := by decide +kernel
end Rp
