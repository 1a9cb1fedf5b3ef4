/- Layer 7: SemaWays' sources, all of them. -/
import Derived.Test.YtpnhefjiobnelaaNtGa
import Derived.Test.YtpnhefjiobnelaaNtGb
import Derived.Test.YtpnhefjiobnelaaNtGc
import Derived.Test.YtpnhefjiobnelaaNtGd
namespace Rp
open Go Lg
theorem wyn1 {k : Nat} (h : k ≤ 1) : ckG (alM 300) (wyS 1 k ++ scM) 300 (wyW 1 k) = true := by
  match k, h with
  | 0, _ => exact wy1_0
  | 1, _ => exact wy1_1
  | k + 2, h => exact absurd h (by omega)
theorem wyn2 {k : Nat} (h : k ≤ 2) : ckG (alM 300) (wyS 2 k ++ scM) 300 (wyW 2 k) = true := by
  match k, h with
  | 0, _ => exact wy2_0
  | 1, _ => exact wy2_1
  | 2, _ => exact wy2_2
  | k + 3, h => exact absurd h (by omega)
theorem wyn3 {k : Nat} (h : k ≤ 3) : ckG (alM 300) (wyS 3 k ++ scM) 300 (wyW 3 k) = true := by
  match k, h with
  | 0, _ => exact wy3_0
  | 1, _ => exact wy3_1
  | 2, _ => exact wy3_2
  | 3, _ => exact wy3_3
  | k + 4, h => exact absurd h (by omega)
theorem wyn4 {k : Nat} (h : k ≤ 4) : ckG (alM 300) (wyS 4 k ++ scM) 300 (wyW 4 k) = true := by
  match k, h with
  | 0, _ => exact wy4_0
  | 1, _ => exact wy4_1
  | 2, _ => exact wy4_2
  | 3, _ => exact wy4_3
  | 4, _ => exact wy4_4
  | k + 5, h => exact absurd h (by omega)
theorem wyn5 {k : Nat} (h : k ≤ 5) : ckG (alM 300) (wyS 5 k ++ scM) 300 (wyW 5 k) = true := by
  match k, h with
  | 0, _ => exact wy5_0
  | 1, _ => exact wy5_1
  | 2, _ => exact wy5_2
  | 3, _ => exact wy5_3
  | 4, _ => exact wy5_4
  | 5, _ => exact wy5_5
  | k + 6, h => exact absurd h (by omega)
theorem wyn6 {k : Nat} (h : k ≤ 6) : ckG (alM 300) (wyS 6 k ++ scM) 300 (wyW 6 k) = true := by
  match k, h with
  | 0, _ => exact wy6_0
  | 1, _ => exact wy6_1
  | 2, _ => exact wy6_2
  | 3, _ => exact wy6_3
  | 4, _ => exact wy6_4
  | 5, _ => exact wy6_5
  | 6, _ => exact wy6_6
  | k + 7, h => exact absurd h (by omega)
theorem wyn7 {k : Nat} (h : k ≤ 7) : ckG (alM 300) (wyS 7 k ++ scM) 300 (wyW 7 k) = true := by
  match k, h with
  | 0, _ => exact wy7_0
  | 1, _ => exact wy7_1
  | 2, _ => exact wy7_2
  | 3, _ => exact wy7_3
  | 4, _ => exact wy7_4
  | 5, _ => exact wy7_5
  | 6, _ => exact wy7_6
  | 7, _ => exact wy7_7
  | k + 8, h => exact absurd h (by omega)
theorem wyn8 {k : Nat} (h : k ≤ 8) : ckG (alM 300) (wyS 8 k ++ scM) 300 (wyW 8 k) = true := by
  match k, h with
  | 0, _ => exact wy8_0
  | 1, _ => exact wy8_1
  | 2, _ => exact wy8_2
  | 3, _ => exact wy8_3
  | 4, _ => exact wy8_4
  | 5, _ => exact wy8_5
  | 6, _ => exact wy8_6
  | 7, _ => exact wy8_7
  | 8, _ => exact wy8_8
  | k + 9, h => exact absurd h (by omega)
theorem wyn9 {k : Nat} (h : k ≤ 9) : ckG (alM 300) (wyS 9 k ++ scM) 300 (wyW 9 k) = true := by
  match k, h with
  | 0, _ => exact wy9_0
  | 1, _ => exact wy9_1
  | 2, _ => exact wy9_2
  | 3, _ => exact wy9_3
  | 4, _ => exact wy9_4
  | 5, _ => exact wy9_5
  | 6, _ => exact wy9_6
  | 7, _ => exact wy9_7
  | 8, _ => exact wy9_8
  | 9, _ => exact wy9_9
  | k + 10, h => exact absurd h (by omega)
theorem wyn10 {k : Nat} (h : k ≤ 10) : ckG (alM 300) (wyS 10 k ++ scM) 300 (wyW 10 k) = true := by
  match k, h with
  | 0, _ => exact wy10_0
  | 1, _ => exact wy10_1
  | 2, _ => exact wy10_2
  | 3, _ => exact wy10_3
  | 4, _ => exact wy10_4
  | 5, _ => exact wy10_5
  | 6, _ => exact wy10_6
  | 7, _ => exact wy10_7
  | 8, _ => exact wy10_8
  | 9, _ => exact wy10_9
  | 10, _ => exact wy10_10
  | k + 11, h => exact absurd h (by omega)
theorem wyn11 {k : Nat} (h : k ≤ 11) : ckG (alM 300) (wyS 11 k ++ scM) 300 (wyW 11 k) = true := by
  match k, h with
  | 0, _ => exact wy11_0
  | 1, _ => exact wy11_1
  | 2, _ => exact wy11_2
  | 3, _ => exact wy11_3
  | 4, _ => exact wy11_4
  | 5, _ => exact wy11_5
  | 6, _ => exact wy11_6
  | 7, _ => exact wy11_7
  | 8, _ => exact wy11_8
  | 9, _ => exact wy11_9
  | 10, _ => exact wy11_10
  | 11, _ => exact wy11_11
  | k + 12, h => exact absurd h (by omega)
theorem wyn12 {k : Nat} (h : k ≤ 12) : ckG (alM 300) (wyS 12 k ++ scM) 300 (wyW 12 k) = true := by
  match k, h with
  | 0, _ => exact wy12_0
  | 1, _ => exact wy12_1
  | 2, _ => exact wy12_2
  | 3, _ => exact wy12_3
  | 4, _ => exact wy12_4
  | 5, _ => exact wy12_5
  | 6, _ => exact wy12_6
  | 7, _ => exact wy12_7
  | 8, _ => exact wy12_8
  | 9, _ => exact wy12_9
  | 10, _ => exact wy12_10
  | 11, _ => exact wy12_11
  | 12, _ => exact wy12_12
  | k + 13, h => exact absurd h (by omega)
theorem wyn13 {k : Nat} (h : k ≤ 13) : ckG (alM 300) (wyS 13 k ++ scM) 300 (wyW 13 k) = true := by
  match k, h with
  | 0, _ => exact wy13_0
  | 1, _ => exact wy13_1
  | 2, _ => exact wy13_2
  | 3, _ => exact wy13_3
  | 4, _ => exact wy13_4
  | 5, _ => exact wy13_5
  | 6, _ => exact wy13_6
  | 7, _ => exact wy13_7
  | 8, _ => exact wy13_8
  | 9, _ => exact wy13_9
  | 10, _ => exact wy13_10
  | 11, _ => exact wy13_11
  | 12, _ => exact wy13_12
  | 13, _ => exact wy13_13
  | k + 14, h => exact absurd h (by omega)
theorem wyn14 {k : Nat} (h : k ≤ 14) : ckG (alM 300) (wyS 14 k ++ scM) 300 (wyW 14 k) = true := by
  match k, h with
  | 0, _ => exact wy14_0
  | 1, _ => exact wy14_1
  | 2, _ => exact wy14_2
  | 3, _ => exact wy14_3
  | 4, _ => exact wy14_4
  | 5, _ => exact wy14_5
  | 6, _ => exact wy14_6
  | 7, _ => exact wy14_7
  | 8, _ => exact wy14_8
  | 9, _ => exact wy14_9
  | 10, _ => exact wy14_10
  | 11, _ => exact wy14_11
  | 12, _ => exact wy14_12
  | 13, _ => exact wy14_13
  | 14, _ => exact wy14_14
  | k + 15, h => exact absurd h (by omega)
theorem wyNk {n k : Nat} (h1 : 1 ≤ n) (h2 : n ≤ 14) (h : k ≤ n) : ckG (alM 300) (wyS n k ++ scM) 300 (wyW n k) = true := by
  match n, h1, h2, h with
  | 1, _, _, h => exact wyn1 h
  | 2, _, _, h => exact wyn2 h
  | 3, _, _, h => exact wyn3 h
  | 4, _, _, h => exact wyn4 h
  | 5, _, _, h => exact wyn5 h
  | 6, _, _, h => exact wyn6 h
  | 7, _, _, h => exact wyn7 h
  | 8, _, _, h => exact wyn8 h
  | 9, _, _, h => exact wyn9 h
  | 10, _, _, h => exact wyn10 h
  | 11, _, _, h => exact wyn11 h
  | 12, _, _, h => exact wyn12 h
  | 13, _, _, h => exact wyn13 h
  | 14, _, _, h => exact wyn14 h
  | n + 15, _, h2, _ => exact absurd h2 (by omega)
end Rp
