/- Layer 6 of the program: a step is left. -/
import Derived.Test.YtbpjgfemopakcaaCF
namespace Go.Proofs.Ytbpjgfemopakcaa
open Go.RowKit Lg Go.Maps
set_option linter.unusedVariables false
set_option linter.unusedSimpArgs false

/-- what is known of what was begun -/
def Seen1 (ms X : Nat) (w : World) : Prop := w.heap[ms]? = some (.map #[{ key := .pointer (some ⟨X, 0, none⟩), val := .agg #[.bool false, .int .i64 0], born := 0 }] 1)
theorem tAt_new {w : World} {X : Nat} {c a b : Int} : TAt w.heap.size X c a b (w.alloc (.cells #[.pointer (some ⟨X, 0, none⟩), .int .i64 c, .int .i64 a, .int .i64 b] 81)) := by
  have h : (w.alloc (.cells #[.pointer (some ⟨X, 0, none⟩), .int .i64 c, .int .i64 a, .int .i64 b] 81)).heap[w.heap.size]? = some (.cells #[.pointer (some ⟨X, 0, none⟩), .int .i64 c, .int .i64 a, .int .i64 b] 81 (0, 0)) := by show (w.heap.push _)[w.heap.size]? = _; simp
  exact ⟨by rw [Lib.cell_of_heap h]; rfl, by rw [Lib.cell_of_heap h]; rfl, by rw [Lib.cell_of_heap h]; rfl, by rw [Lib.cell_of_heap h]; rfl⟩
theorem TAt.drew {g X : Nat} {c a b : Int} {w : World} (h : TAt g X c a b w) : TAt g X c a b w.drew := ⟨h.c0, h.c1, h.c2, h.c3⟩
theorem old_block {w w1 : World} {o : Obj} {k : Nat} (hb : Below (w.alloc o).drew.heap.size (w.alloc o).drew w1) (hk : k < w.heap.size) : w1.heap[k]? = w.heap[k]? := by
  have e : (w.alloc o).drew.heap.size = w.heap.size + 1 := by show (w.heap.push o).size = _; simp
  exact (hb.block k (by omega)).trans ((belA (Below.refl w.heap.size w) o).block k hk)
theorem new_block {w w1 : World} {o : Obj} (hb : Below (w.alloc o).drew.heap.size (w.alloc o).drew w1) : w1.heap[w.heap.size]? = some o := by
  have e : (w.alloc o).drew.heap.size = w.heap.size + 1 := by show (w.heap.push o).size = _; simp
  exact (hb.block w.heap.size (by omega)).trans (by show (w.heap.push o)[w.heap.size]? = _; simp)
/-- what a step comes to -/
def StEnd (X : Nat) (a b r : Int) (N : Nat) (w : World) : Prop := ∀ w', Below N w w' → ∀ g, N ≤ g → TAt g X 2 a b w' → Calls Try.prog 36 #[.pointer (some ⟨g, 0, none⟩)] w' fun e w'' => e = .returned (.int .i64 r) ∧ Below w'.heap.size w' w''
set_option maxRecDepth 100000 in
set_option maxHeartbeats 4000000 in
theorem kEnd_ok {B b mn ms g cap X : Nat} {x y r : Int} {w : World} (h : Wk b mn ms (.slice (some ⟨g, 0, none⟩) 1 cap) w) (hr : Row1 B g cap X 2 x y w) (hs : Seen1 ms X w) (hne : b ≠ ms) (HN : StEnd X x y r w.heap.size w) :
    Calls Try.prog 31 #[.pointer (some ⟨b, 0, none⟩)] w fun e w' => e = .returned (.int .i64 r) ∧ Wk b mn ms (.slice (some ⟨g, 0, none⟩) 0 cap) w' ∧ K2 b ms w w' := by
  obtain ⟨b0, b1, b2, bf, bl⟩ := h.at_
  obtain ⟨c0, c1, c2, c3, cf, gl, _, hc1, hcm⟩ := hr.at_
  have hml := kLt hs
  have HH : Hid _ := h
  have HS : Hid _ := hs
  have HNN : Hid _ := HN
  unfold maxLen at hcm
  have hneT : b ≠ w.heap.size := by omega
  have hgT : g ≠ w.heap.size := by omega
  clear h hs hr HN
  go_enter Try.func31, Try.ntmps31
  go_wp2
  go_region
  all_goals go_wp2_with (first
    | (go_at_call 36; refine (HNN.out _ (belA (Below.refl _ _) _).drew w.heap.size (Nat.le_refl _) tAt_new.drew).mono ?_; rintro e w1 ⟨rfl, hb1⟩; have hW1 : Hid (Wk b mn ms (.slice (some ⟨g, 0, none⟩) 1 cap) w1) := (old_block hb1 bl).trans HH.out; have hS1 : Seen1 ms X w1 := (old_block hb1 hml).trans HS.out; have t0 : w1.cell? ⟨w.heap.size, 0, none⟩ = some (.pointer (some ⟨X, 0, none⟩)) := by { rw [Lib.cell_of_heap (new_block hb1)]; rfl }; obtain ⟨d0, d1, d2, df, dl⟩ := hW1.out.at_; have hl1 := kLt hS1; obtain ⟨w2, hrun, hg2, hs2⟩ := run_update_one (w := w1.drew) (ad := ⟨X, 0, none⟩) (val := .agg #[.bool true, .int .i64 r]) hS1; have hW2 : Hid (Wk b mn ms (.slice (some ⟨g, 0, none⟩) 1 cap) w2) := (hg2.block b dl (by simpa using hne)).trans hW1.out; obtain ⟨f0, f1, f2, ff, fl⟩ := hW2.out.at_; clear hS1 hs2))
  all_goals go_region
  all_goals go_wp2
  all_goals go_region
  all_goals go_wp2
  all_goals go_ret
  all_goals
    have a1 : K2 b ms w w1 := (K2.of (belA (Below.refl _ _) _)).drew.trans (K2.of hb1)
    have a2 : K2 b ms w1 w2 := ⟨hg2.os, hg2.tape, hg2.output, hg2.size, (K2.grown (b := b) hg2).block⟩
    exact ⟨rfl, hset3 hW2.out, ((a1.trans a2).trans (K2.set (j := 1) (y := .slice (some ⟨g, 0, none⟩) 0 cap))).drew⟩
/-- a step that comes to too much -/
def StOver (X : Nat) (a b p : Int) (N : Nat) (w : World) : Prop := ∀ w', Below N w w' → ∀ g, N ≤ g → TAt g X 2 a b w' → Calls Try.prog 36 #[.pointer (some ⟨g, 0, none⟩)] w' fun e w'' => e = .panicked (pnV p) ∧ Below w'.heap.size w' w''
set_option maxRecDepth 100000 in
set_option maxHeartbeats 4000000 in
theorem kEnd_over {B b mn ms g cap X : Nat} {x y p : Int} {w : World} (h : Wk b mn ms (.slice (some ⟨g, 0, none⟩) 1 cap) w) (hr : Row1 B g cap X 2 x y w) (HN : StOver X x y p w.heap.size w) :
    Calls Try.prog 31 #[.pointer (some ⟨b, 0, none⟩)] w fun e w' => e = .panicked (pnV p) ∧ K2 b ms w w' := by
  obtain ⟨b0, b1, b2, bf, bl⟩ := h.at_
  obtain ⟨c0, c1, c2, c3, cf, gl, _, hc1, hcm⟩ := hr.at_
  have HNN : Hid _ := HN
  unfold maxLen at hcm
  have hneT : b ≠ w.heap.size := by omega
  have hgT : g ≠ w.heap.size := by omega
  clear h hr HN
  go_enter Try.func31, Try.ntmps31
  go_wp2
  go_region
  all_goals go_wp2_with (first
    | (go_at_call 36; refine (HNN.out _ (belA (Below.refl _ _) _).drew w.heap.size (Nat.le_refl _) tAt_new.drew).mono ?_; rintro e w1 ⟨rfl, hb1⟩))
  all_goals exact ⟨rfl, rfl, (K2.of (belA (Below.refl _ _) _)).drew.trans (K2.of hb1)⟩
end Go.Proofs.Ytbpjgfemopakcaa
