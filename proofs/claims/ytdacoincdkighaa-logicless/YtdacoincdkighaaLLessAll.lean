/- The law LogicLess: its walk, all together. -/
import Derived.Test.YtdacoincdkighaaLLessA
import Derived.Test.YtdacoincdkighaaLLessB
namespace Go.Proofs.Ytdacoincdkighaa
open Go.RowKit Lg
set_option linter.unusedVariables false
theorem LogicLess_c (op : Int) (v0 v1 v2 : ByteArray) (hide : Int) (w : World) (ho : -9223372036854775808 ≤ op ∧ op ≤ 9223372036854775807) (z0 : v0.size ≤ maxLen) (z1 : v1.size ≤ maxLen) (z2 : v2.size ≤ maxLen) (hh : -9223372036854775808 ≤ hide ∧ hide ≤ 9223372036854775807) : Calls Try.prog 9 #[.int .i64 op, .agg #[.string v0, .string v1, .string v2], .int .i64 hide] w fun e w' => e = .returned (.bool true) ∧ Below w.heap.size w w' := by
  by_cases a0 : vec (L v0) = true
  case neg => exact lessBad0V op hide v0 v1 v2 w z0 z1 z2 (by simpa using a0)
  by_cases b0 : kno (L v0) = true
  case neg => exact lessBad0K op hide v0 v1 v2 w z0 z1 z2 a0 (by simpa using b0)
  by_cases a1 : vec (L v1) = true
  case neg => exact lessBad1V op hide v0 v1 v2 w z0 z1 z2 a0 b0 (by simpa using a1)
  by_cases b1 : kno (L v1) = true
  case neg => exact lessBad1K op hide v0 v1 v2 w z0 z1 z2 a0 b0 a1 (by simpa using b1)
  by_cases a2 : vec (L v2) = true
  case neg => exact lessBad2V op hide v0 v1 v2 w z0 z1 z2 a0 b0 a1 b1 (by simpa using a2)
  by_cases b2 : kno (L v2) = true
  case neg => exact lessBad2K op hide v0 v1 v2 w z0 z1 z2 a0 b0 a1 b1 a2 (by simpa using b2)
  by_cases hl : v0.size = v1.size
  · by_cases c1 : 13 ≤ op ∧ op ≤ 27
    · exact lessBS op hide v0 v1 v2 w z0 z1 z2 a0 a1 a2 b0 b1 b2 c1.1 c1.2 hl
    · by_cases c2 : 7 ≤ op ∧ op ≤ 12
      · exact lessUS op hide v0 v1 v2 w z0 z1 z2 a0 a1 a2 b0 b1 b2 c2.1 c2.2 hl
      · exact lessNS op hide v0 v1 v2 w z0 z1 z2 a0 a1 a2 b0 b1 b2 (by omega) (by omega) hl
  · by_cases c1 : 13 ≤ op ∧ op ≤ 27
    · exact lessBD op hide v0 v1 v2 w z0 z1 z2 a0 a1 a2 b0 b1 b2 c1.1 c1.2 hl
    · by_cases c2 : 7 ≤ op ∧ op ≤ 12
      · exact lessUD op hide v0 v1 v2 w z0 z1 z2 a0 a1 a2 b0 b1 b2 c2.1 c2.2 hl
      · exact lessND op hide v0 v1 v2 w z0 z1 z2 a0 a1 a2 b0 b1 b2 (by omega) (by omega) hl
end Go.Proofs.Ytdacoincdkighaa
