/- The law LogicParts: its walk, all together. -/
import Derived.Test.YtdacoincdkighaaLParts1
import Derived.Test.YtdacoincdkighaaLParts2
import Derived.Test.YtdacoincdkighaaLParts3
namespace Go.Proofs.Ytdacoincdkighaa
open Go.RowKit Lg
theorem LogicParts_c (s t : ByteArray) (n0 n1 n2 : Int) (w : World) (hs1 : s.size ≤ maxLen) (hs2 : t.size ≤ maxLen) : Calls Try.prog 6 #[.string s, .string t, .agg #[.int .i64 n0, .int .i64 n1, .int .i64 n2]] w fun e w' => e = .returned (.bool true) ∧ Below w.heap.size w w' := by
  by_cases c1 : n0 < 1
  · by_cases va : vec (L s) = true
    · exact LogicPartsOk1 s t n0 n1 n2 w hs1 hs2 c1 va
    · exact LogicPartsBad1 s t n0 n1 n2 w hs1 hs2 c1 (by simpa using va)
  by_cases c2 : 256 < n0
  · by_cases va : vec (L s) = true
    · exact LogicPartsOk2 s t n0 n1 n2 w hs1 hs2 c2 va
    · exact LogicPartsBad2 s t n0 n1 n2 w hs1 hs2 c2 (by simpa using va)
  obtain ⟨m, rfl⟩ := Int.eq_ofNat_of_zero_le (show 0 ≤ n0 by omega)
  by_cases va : vec (L s) = true
  · exact LogicPartsOk3 s t m n1 n2 w hs1 hs2 (by omega) (by omega) va
  · exact LogicPartsBad3 s t m n1 n2 w hs1 hs2 (by omega) (by omega) (by simpa using va)
end Go.Proofs.Ytdacoincdkighaa
