/- Layer 1: parts, bits, numbers. -/
import Derived.Test.YtpdcmehjndhcjaaWL
import Derived.Test.YtpdcmehjndhcjaaGM
namespace Go.Proofs.Ytpdcmehjndhcjaa
open Go.RowKit Lg
set_option linter.unusedVariables false

theorem tupI {x y : Int} {a b : Int} (h : y = x ∧ b = a) : Ending.returned (.tuple #[.int .i64 x, .int .i64 a]) = .returned (.tuple #[.int .i64 y, .int .i64 b]) := by rw [h.1, h.2]
theorem part_L (s : ByteArray) (hi lo : Nat) (h1 : lo ≤ hi) (h2 : hi < s.size) : s.extract (s.size - 1 - hi) (s.size - lo) = S (parL (L s) hi lo) := by
  apply L_inj; rw [L_extract, L_S]; unfold parL; rw [len_L]; congr 1; omega
theorem bit_L (s : ByteArray) (n : Nat) (h : n < s.size) : s.extract (s.size - 1 - n) (s.size - n) = S [bitAt (L s) n] := by
  apply L_inj; unfold bitAt; rw [L_extract, L_S, len_L, show s.size - n - (s.size - 1 - n) = 1 by omega]
  have hl : s.size - 1 - n < (L s).length := by rw [len_L]; omega
  rw [List.drop_eq_getElem_cons hl, List.getD_eq_getElem?_getD, List.getElem?_eq_getElem hl]; rfl
end Go.Proofs.Ytpdcmehjndhcjaa
