/- Layer 1: of truths. -/
import Derived.Test.YtpdcmehjndhcjaaWF
namespace Go.Proofs.Ytpdcmehjndhcjaa
open Go.RowKit Lg
set_option linter.unusedVariables false

/-- a string of one byte, made out of a slice of it -/
theorem one_c (c : UInt8) (w : World) : (convert 67 9 (.slice (some ⟨w.heap.size, 0, none⟩) 1 1)).run Try.prog (w.alloc (.cells #[.int .u8 c.toNat] 5)) = .ok (.string (S [c])) (w.alloc (.cells #[.int .u8 c.toNat] 5)) := by
  have h := run_convert_bytes_arg (P := Try.prog) (w.alloc (.cells #[.int .u8 c.toNat] 5)) 67 5 Try.underlying67 Try.underlying5 w.heap.size 0 1 1 [(c.toNat : Int)] rfl (fun i hi => by
    obtain rfl : i = 0 := by omega
    rw [World.cell?_alloc_at _ _ _ _ rfl]; rfl) 9 Try.underlying9
  rw [h]; congr 2; apply L_inj; rw [L_S, L, strOfNums_data]; simp

end Go.Proofs.Ytpdcmehjndhcjaa
