/- Layer 3 of the reference, over tokens without ticks: its block; nothing is left out; no directive. -/
import Derived.Test.YthdhmlojihpfkaaGreatSC
namespace Go.Proofs.YthdhmlojihpfkaaGreat
open Go.RowKit Lg
set_option linter.unusedVariables false
set_option linter.unusedSimpArgs false

/-- the run's block: no words, no parts, no reason -/
def RRl (b g n cap k : Nat) (vo : Value) (w : World) : Prop := w.heap[b]? = some (.cells #[.slice (some ⟨g, 0, none⟩) n cap, .int .i64 k, .slice none 0 0, .slice none 0 0, vo, .int .i64 0, .int .i64 0, .int .i64 0] 78 (0, 0))
theorem RRl.at_ {b g n cap k : Nat} {vo : Value} {w : World} (h : RRl b g n cap k vo w) :
    w.cell? ⟨b, 0, none⟩ = some (.slice (some ⟨g, 0, none⟩) n cap) ∧ w.cell? ⟨b, 1, none⟩ = some (.int .i64 k) ∧ w.cell? ⟨b, 2, none⟩ = some (.slice none 0 0) ∧ w.cell? ⟨b, 3, none⟩ = some (.slice none 0 0) ∧ w.cell? ⟨b, 4, none⟩ = some vo ∧ w.cell? ⟨b, 5, none⟩ = some (.int .i64 0) ∧ w.cell? ⟨b, 6, none⟩ = some (.int .i64 0) ∧ w.cell? ⟨b, 7, none⟩ = some (.int .i64 0) ∧ (∀ j, w.frozen? ⟨b, j, none⟩ = false) ∧ b < w.heap.size := by
  refine ⟨?_, ?_, ?_, ?_, ?_, ?_, ?_, ?_, fun j => Lib.frozen_of_heap h j, heap_lt h⟩ <;> (rw [Lib.cell_of_heap h]; rfl)
set_option maxRecDepth 100000 in
set_option maxHeartbeats 1000000 in
theorem rKept {b g n cap k : Nat} {vo : Value} {w : World} (h : RRl b g n cap k vo w) : Calls Tryz.prog 29 #[.pointer (some ⟨b, 0, none⟩)] w fun e w' => e = .returned (.bool true) ∧ Below w.heap.size w w' := by
  obtain ⟨c0, c1, c2, c3, c4, c5, c6, c7, cf, cl⟩ := h.at_
  go_enter Tryz.func29, Tryz.ntmps29
  go_wp2
  go_region
  all_goals go_wp2
  all_goals
    go_ret
    exact ⟨rfl, belD⟩
set_option maxRecDepth 100000 in
set_option maxHeartbeats 1000000 in
theorem rDirect (k : Int) (x : ByteArray) (p : Int) (hk : k ≠ 4) (w : World) : Calls Tryz.prog 30 #[.agg #[.int .i64 k, .string x, .int .i64 p]] w fun e w' => e = .returned (.bool false) ∧ Below w.heap.size w w' := by
  have e4 : (k == 4) = false := by simpa using hk
  go_enter Tryz.func30, Tryz.ntmps30
  go_wp2_with fail
  go_ret
  exact ⟨rfl, bxS⟩
end Go.Proofs.YthdhmlojihpfkaaGreat
