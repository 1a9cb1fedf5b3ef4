/- Layer 3 of the program: a run that is given up is caught. -/
import Derived.Test.YteohmemifogdlaaZR
namespace Go.Proofs.Yteohmemifogdlaa
open Go.RowKit Lg Go.Maps
set_option linter.unusedVariables false
set_option linter.unusedSimpArgs false

theorem asD_yes (v : Value) (w : World) : (Instr.typeAssert (.iface 31 v) 20 31 true).run Try.prog w = .ok (.tuple #[v, .bool true]) w := by kernel_rfl
theorem asD_no (w : World) : (Instr.typeAssert .nilIface 20 31 true).run Try.prog w = .ok (.tuple #[.agg #[.int .i64 0, .int .i64 0], .bool false]) w := by kernel_rfl
set_option maxRecDepth 100000 in
set_option maxHeartbeats 2000000 in
theorem catch_panic (rb : Nat) (v0 : Value) (p c : Int) (w : World) (hc : w.cell? ⟨rb, 0, none⟩ = some v0) (hz : w.frozen? ⟨rb, 0, none⟩ = false) (hlt : rb < w.heap.size) :
    CallsD Try.prog 17 #[.pointer (some ⟨rb, 0, none⟩)] (.panicking (pnc p c)) w fun e u' w' =>
      e = .returned (.tuple #[]) ∧ u' = .panicking [{ v := .iface 31 (.agg #[.int .i64 p, .int .i64 c]), recovered := true }] ∧ w' = ((w.alloc (.cells #[.int .i64 p, .int .i64 c] 31)).alloc (.cells #[.int .i64 p, .int .i64 c] 31)).setCell ⟨rb, 0, none⟩ (.slice (some ⟨w.heap.size + 1, 0, none⟩) 1 1) := by
  have hcA : ∀ o1 o2, ((w.alloc o1).alloc o2).cell? ⟨rb, 0, none⟩ = some v0 := fun o1 o2 => ((belA (bxB (w := w) (o := o1)) o2).cell (p := ⟨rb, 0, none⟩) hlt).trans hc
  have hzA : ∀ o1 o2, ((w.alloc o1).alloc o2).frozen? ⟨rb, 0, none⟩ = false := fun o1 o2 => ((belA (bxB (w := w) (o := o1)) o2).frozen (p := ⟨rb, 0, none⟩) hlt).trans hz
  refine callsD_of_wpS Try.func17 rfl fun c₀ cs hu => ?_
  have hu2 : c₀.mode = .panicking [{ v := .iface 31 (.agg #[.int .i64 p, .int .i64 c]), recovered := false }] := hu
  apply wpS_seq
  apply wpS_region
  simp [wpOpsS, go_sem, recoverD, hu2, Try.ntmps17, Exit.thenS, asD_yes, Array.replicate]
  apply wpS_seq
  apply wpS_region
  simp [wpOpsS, go_sem, Exit.thenS]
  refine wpS_cond (t := true) (by simp [Act.eval]) ?_
  simp only [if_true]
  apply wpS_region
  simp [wpOpsS, go_sem, hcA, hzA, bodyPostS, results, Try.results17]
set_option maxRecDepth 100000 in
set_option maxHeartbeats 2000000 in
theorem catch_idle (rb : Nat) (w : World) :
    CallsD Try.prog 17 #[.pointer (some ⟨rb, 0, none⟩)] .returning w fun e u' w' => e = .returned (.tuple #[]) ∧ u' = .returning ∧ w' = w.alloc (.cells #[.int .i64 0, .int .i64 0] 31) := by
  refine callsD_of_wpS Try.func17 rfl fun c₀ cs hu => ?_
  apply wpS_seq
  apply wpS_region
  simp [wpOpsS, go_sem, recoverD, hu, Try.ntmps17, Exit.thenS, asD_no, Array.replicate]
  apply wpS_seq
  apply wpS_region
  simp [wpOpsS, go_sem, Exit.thenS]
  refine wpS_cond (t := false) (by simp [Act.eval]) ?_
  simp only [Bool.false_eq_true, if_false]
  refine wpS_of_wp (wp_skip ?_)
  cases c₀
  simp_all [bodyPostS, results, Try.results17]
end Go.Proofs.Yteohmemifogdlaa
