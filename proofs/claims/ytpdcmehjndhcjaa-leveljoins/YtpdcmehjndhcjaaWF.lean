/- Layer 1: the operators of one width. -/
import Derived.Test.YtpdcmehjndhcjaaWE
import Derived.Test.YtpdcmehjndhcjaaGM
namespace Go.Proofs.Ytpdcmehjndhcjaa
open Go.RowKit Lg
set_option linter.unusedVariables false

theorem bel {w a b : World} (h : Below w.heap.size w a) (k : Below a.heap.size a b) : Below w.heap.size w b := h.trans (k.mono h.size)
theorem belA {w a : World} (h : Below w.heap.size w a) (o : Obj) : Below w.heap.size w (a.alloc o) := h.alloc h.size o
theorem belD {w : World} : Below w.heap.size w w.drew := (Below.refl _ _).drew

theorem toL (s : ByteArray) : s.toList = L s := Go.ByteArray.toList_eq s
theorem ret_s {a b : List UInt8} {s : ByteArray} (h : a = b) (hs : s = S a) : Ending.returned (.string s) = .returned (.string (S b)) := by rw [hs, h]
theorem upToN_le (l : List UInt8) (m : Nat) : upToN l m ≤ m := by unfold upToN; split <;> omega
theorem shl_str (s : ByteArray) (n : Nat) (h : n ≤ s.size) : s.extract n s.size ++ S (rep n 48) = S (shlL (L s) n) := by
  apply L_inj; rw [L_append, L_extract, L_S, L_S]; unfold shlL; rw [List.take_of_length_le (by simp [len_L])]
theorem shr_str (s : ByteArray) (n : Nat) (h : n ≤ s.size) : S (rep n 48) ++ s.extract 0 (s.size - n) = S (shrL (L s) n) := by
  apply L_inj; rw [L_append, L_extract, L_S, L_S]; unfold shrL; rw [len_L]; simp

end Go.Proofs.Ytpdcmehjndhcjaa
