/- Layer 6 of the program: what is given up is caught; Eval. -/
import Derived.Test.YtbpjgfemopakcaaCI
namespace Go.Proofs.Ytbpjgfemopakcaa
open Go.RowKit Lg Go.Maps
set_option linter.unusedVariables false
set_option linter.unusedSimpArgs false

theorem kAs_nil (w : World) : (Instr.typeAssert .nilIface 20 73 true).run Try.prog w = .ok (.tuple #[.int .i64 0, .bool false]) w ∧ (Instr.typeAssert .nilIface 20 74 true).run Try.prog w = .ok (.tuple #[.int .i64 0, .bool false]) w ∧ (Instr.typeAssert .nilIface 20 75 true).run Try.prog w = .ok (.tuple #[.int .i64 0, .bool false]) w := ⟨by kernel_rfl, by kernel_rfl, by kernel_rfl⟩
theorem kAs_u (v : Value) (w : World) : (Instr.typeAssert (.iface 74 v) 20 73 true).run Try.prog w = .ok (.tuple #[.int .i64 0, .bool false]) w ∧ (Instr.typeAssert (.iface 74 v) 20 74 true).run Try.prog w = .ok (.tuple #[v, .bool true]) w := ⟨by kernel_rfl, by kernel_rfl⟩
theorem kAs_v (v : Value) (w : World) : (Instr.typeAssert (.iface 75 v) 20 73 true).run Try.prog w = .ok (.tuple #[.int .i64 0, .bool false]) w ∧ (Instr.typeAssert (.iface 75 v) 20 74 true).run Try.prog w = .ok (.tuple #[.int .i64 0, .bool false]) w ∧ (Instr.typeAssert (.iface 75 v) 20 75 true).run Try.prog w = .ok (.tuple #[v, .bool true]) w := ⟨by kernel_rfl, by kernel_rfl, by kernel_rfl⟩
set_option maxRecDepth 100000 in
set_option maxHeartbeats 2000000 in
theorem kCatchI (rb : Nat) (w : World) :
    CallsD Try.prog 26 #[.pointer (some ⟨rb, 0, none⟩)] .returning w fun e u' w' => e = .returned (.tuple #[]) ∧ u' = .returning ∧ w' = w := by
  refine callsD_of_wpS Try.func26 rfl fun c₀ cs hu => ?_
  have h1 := fun w => (kAs_nil w).1
  have h2 := fun w => (kAs_nil w).2.1
  have h3 := fun w => (kAs_nil w).2.2
  apply wpS_seq
  apply wpS_region
  simp [wpOpsS, go_sem, recoverD, hu, Try.ntmps26, Exit.thenS, h1, Array.replicate]
  refine wpS_of_wp ?_
  go_wp2_with fail
  cases c₀
  simp_all [bodyPostS, results, Try.results26]
set_option maxRecDepth 100000 in
set_option maxHeartbeats 2000000 in
theorem kCatchU (rb : Nat) (p : Int) (w : World) (hc : w.heap[rb]? = some (.cells #[.int .i64 0, .int .i64 0] 48 (0, 0))) :
    CallsD Try.prog 26 #[.pointer (some ⟨rb, 0, none⟩)] (.panicking (pnU p)) w fun e u' w' =>
      e = .returned (.tuple #[]) ∧ u' = .panicking [{ v := .iface 74 (.int .i64 p), recovered := true }] ∧ w' = (w.setCell ⟨rb, 0, none⟩ (.int .i64 p)).setCell ⟨rb, 1, none⟩ (.int .i64 71) := by
  have c0 : w.cell? ⟨rb, 0, none⟩ = some (.int .i64 0) := by rw [Lib.cell_of_heap hc]; rfl
  have c1 : w.cell? ⟨rb, 1, none⟩ = some (.int .i64 0) := by rw [Lib.cell_of_heap hc]; rfl
  have cf : ∀ j, w.frozen? ⟨rb, j, none⟩ = false := fun j => Lib.frozen_of_heap hc j
  have hl := kLt hc
  clear hc
  refine callsD_of_wpS Try.func26 rfl fun c₀ cs hu => ?_
  have hu2 : c₀.mode = .panicking [{ v := .iface 74 (.int .i64 p), recovered := false }] := hu
  have h1 := fun w => (kAs_u (.int .i64 p) w).1
  have h2 := fun w => (kAs_u (.int .i64 p) w).2
  apply wpS_seq
  apply wpS_region
  simp [wpOpsS, go_sem, recoverD, hu2, Try.ntmps26, Exit.thenS, h1, Array.replicate]
  refine wpS_of_wp ?_
  go_wp2_with fail
  simp [bodyPostS, results, Try.results26]
set_option maxRecDepth 100000 in
set_option maxHeartbeats 2000000 in
theorem kCatchV (rb : Nat) (p : Int) (w : World) (hc : w.heap[rb]? = some (.cells #[.int .i64 0, .int .i64 0] 48 (0, 0))) :
    CallsD Try.prog 26 #[.pointer (some ⟨rb, 0, none⟩)] (.panicking (pnV p)) w fun e u' w' =>
      e = .returned (.tuple #[]) ∧ u' = .panicking [{ v := .iface 75 (.int .i64 p), recovered := true }] ∧ w' = (w.setCell ⟨rb, 0, none⟩ (.int .i64 p)).setCell ⟨rb, 1, none⟩ (.int .i64 61) := by
  have c0 : w.cell? ⟨rb, 0, none⟩ = some (.int .i64 0) := by rw [Lib.cell_of_heap hc]; rfl
  have c1 : w.cell? ⟨rb, 1, none⟩ = some (.int .i64 0) := by rw [Lib.cell_of_heap hc]; rfl
  have cf : ∀ j, w.frozen? ⟨rb, j, none⟩ = false := fun j => Lib.frozen_of_heap hc j
  have hl := kLt hc
  clear hc
  refine callsD_of_wpS Try.func26 rfl fun c₀ cs hu => ?_
  have hu2 : c₀.mode = .panicking [{ v := .iface 75 (.int .i64 p), recovered := false }] := hu
  have h1 := fun w => (kAs_v (.int .i64 p) w).1
  have h2 := fun w => (kAs_v (.int .i64 p) w).2.1
  have h3 := fun w => (kAs_v (.int .i64 p) w).2.2
  apply wpS_seq
  apply wpS_region
  simp [wpOpsS, go_sem, recoverD, hu2, Try.ntmps26, Exit.thenS, h1, Array.replicate]
  refine wpS_of_wp ?_
  go_wp2_with fail
  simp [bodyPostS, results, Try.results26]
end Go.Proofs.Ytbpjgfemopakcaa
