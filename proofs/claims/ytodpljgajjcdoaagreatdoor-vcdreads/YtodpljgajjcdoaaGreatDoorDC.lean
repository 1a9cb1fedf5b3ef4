/- Layer 19: the document's line of a value. -/
import Derived.Test.YtodpljgajjcdoaaGreatDoorDB
namespace Go.Proofs.YtodpljgajjcdoaaGreatDoor
set_option maxRecDepth 100000
open Go.RowKit Lg Nl Go.Maps Wf Vd
set_option linter.unusedVariables false
set_option linter.unusedSimpArgs false

theorem ret_strL {a b : ByteArray} (h : L a = L b) : Ending.returned (.string a) = .returned (.string b) := by rw [L_inj h]
set_option maxHeartbeats 1000000 in
theorem rValue_c (v : ByteArray) (k : Nat) (w : World) (hk : k < 4096) (hv : v.size ≤ 256) : Calls Tryz.prog 46 #[.string v, .int .i64 k] w fun e w' => e = .returned (.string (S (valL v k))) ∧ Below w.heap.size w w' := by
  have HC : Hid (∀ W, Calls Tryz.prog 41 #[.int .i64 k] W fun e w' => e = .returned (.string (S (codeL k))) ∧ Below W.heap.size W w') := fun W => rCode_c k W hk
  have hz : (S (codeL k)).size ≤ 2 := by rw [size_S]; exact (codeL_len k).2
  have HV : Hid (v.size ≤ 256) := hv
  have HL : Hid (L (S (codeL k)) = codeL k) := L_S _
  by_cases h1 : v.size = 1
  · have h1' : ((v.size : Int) == 1) = true := by rw [beq_iff_eq]; omega
    have HT : Hid (valL v k = L v ++ codeL k ++ [10]) := if_pos h1
    clear h1
    generalize S (codeL k) = q at HC hz HL
    go_enter Tryz.func46, Tryz.ntmps46
    go_wp2_with (first
      | (go_at_call 41; refine (HC.out _).mono ?_; rintro e w1 ⟨rfl, hb1⟩))
    go_ret
    exact ⟨ret_strL (by rw [L_S, HT.out, L_append, L_append, HL.out]; rfl), hb1⟩
  · have h1' : ((v.size : Int) == 1) = false := by rw [beq_eq_false_iff_ne]; omega
    have HT : Hid (valL v k = 98 :: (L v ++ 32 :: (codeL k ++ [10]))) := if_neg h1
    clear h1
    generalize S (codeL k) = q at HC hz HL
    go_enter Tryz.func46, Tryz.ntmps46
    go_wp2_with (first
      | (go_at_call 41; refine (HC.out _).mono ?_; rintro e w1 ⟨rfl, hb1⟩))
    go_ret
    exact ⟨ret_strL (by rw [L_S, HT.out, L_append, L_append, L_append, L_append, HL.out]; simp [L]), hb1⟩
end Go.Proofs.YtodpljgajjcdoaaGreatDoor
