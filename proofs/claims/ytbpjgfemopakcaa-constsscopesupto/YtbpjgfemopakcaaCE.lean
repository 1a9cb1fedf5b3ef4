/- Layer 6 of the program: a step takes a number, and tells its next part. -/
import Derived.Test.YtbpjgfemopakcaaCD
namespace Go.Proofs.Ytbpjgfemopakcaa
open Go.RowKit Lg Go.Maps
set_option linter.unusedVariables false
set_option linter.unusedSimpArgs false

theorem Row1.at_ {B g cap X : Nat} {c n0 n1 : Int} {w : World} (h : Row1 B g cap X c n0 n1 w) : w.cell? ⟨g, 0, none⟩ = some (.pointer (some ⟨X, 0, none⟩)) ∧ w.cell? ⟨g, 1, none⟩ = some (.int .i64 c) ∧ w.cell? ⟨g, 2, none⟩ = some (.int .i64 n0) ∧ w.cell? ⟨g, 3, none⟩ = some (.int .i64 n1) ∧ (∀ j, w.frozen? ⟨g, j, none⟩ = false) ∧ g < w.heap.size ∧ B ≤ g ∧ 1 ≤ cap ∧ cap ≤ maxLen := by
  have hc := World.ownsRow.cells h (g := g) rfl
  have e : ∀ j, ((⟨g, 0, none⟩ : Addr).add j) = ⟨g, j, none⟩ := fun j => by simp [Addr.add]; intro h; exact h.symm
  rcases h.2 with ⟨h1, _⟩ | ⟨g', cap', cur, h1, hB, hh, h2, h3, _⟩
  · cases h1
  · injection h1 with h1 _ h4
    injection h1 with h1
    injection h1 with h1
    subst h1
    subst h4
    refine ⟨?_, ?_, ?_, ?_, fun j => Lib.frozen_of_heap hh j, kLt hh, hB, h2, h3⟩
    · rw [← e 0]; exact hc 0 _ rfl
    · rw [← e 1]; exact hc 1 _ rfl
    · rw [← e 2]; exact hc 2 _ rfl
    · rw [← e 3]; exact hc 3 _ rfl
theorem take_set {l : List Value} {j k : Nat} {y : Value} : (l.set j y).take k = (l.take k).set j y := by rw [List.take_set]
theorem Row1.set {B g cap X : Nat} {c n0 n1 : Int} {w : World} (h : Row1 B g cap X c n0 n1 w) (j : Nat) (y : Value) (c' n0' n1' : Int) (hj : [Value.pointer (some ⟨X, 0, none⟩), .int .i64 c, .int .i64 n0, .int .i64 n1].set j y = [.pointer (some ⟨X, 0, none⟩), .int .i64 c', .int .i64 n0', .int .i64 n1']) : Row1 B g cap X c' n0' n1' (w.setCell ⟨g, j, none⟩ y) := by
  rcases h.2 with ⟨h1, _⟩ | ⟨g', cap', cur, h1, hB, hh, h2, h3, h4, h5⟩
  · cases h1
  · injection h1 with h1 _ h6
    injection h1 with h1
    injection h1 with h1
    subst h1
    subst h6
    refine ⟨by simp, Or.inr ⟨g, cap, cur.setIfInBounds j y, rfl, hB, ?_, h2, h3, by simpa using h4, ?_⟩⟩
    · simp only [World.setCell]; rw [Array.getElem?_modify, if_pos rfl, hh]; rfl
    · rw [Array.toList_setIfInBounds, take_set, h5, hj]
theorem Row1.k2 {B g cap X a b : Nat} {c n0 n1 : Int} {w w' : World} (h : Row1 B g cap X c n0 n1 w) (hk : K2 a b w w') (ha : g ≠ a) (hb : g ≠ b) : Row1 B g cap X c n0 n1 w' := by
  rcases h.2 with ⟨h1, _⟩ | ⟨g', cap', cur, h1, hB, hh, r⟩
  · cases h1
  · injection h1 with h1 _ h6
    injection h1 with h1
    injection h1 with h1
    subst h1
    subst h6
    exact ⟨h.1, Or.inr ⟨g, cap, cur, rfl, hB, (hk.block g (kLt hh) ha hb).trans hh, r⟩⟩
set_option maxHeartbeats 1000000 in
theorem kTake0 {B g cap X : Nat} {n : Int} {w : World} (h : Row1 B g cap X 0 0 0 w) :
    Calls Try.prog 29 #[.pointer (some ⟨g, 0, none⟩), .int .i64 n] w fun e w' => e = .returned (.tuple #[]) ∧ Row1 B g cap X 1 n 0 w' ∧ K2 g g w w' := by
  obtain ⟨c0, c1, c2, c3, cf, gl, _⟩ := h.at_
  have HH : Hid _ := h
  clear h
  go_enter Try.func29, Try.ntmps29
  go_wp2
  go_region
  all_goals go_wp2
  all_goals go_end0
  all_goals exact ⟨rfl, Row1.set (Row1.set HH.out 2 (.int .i64 n) 0 n 0 rfl) 1 (.int .i64 1) 1 n 0 rfl, ((K2.set (j := 2) (y := .int .i64 n)).trans (K2.set (j := 1) (y := .int .i64 1))).drew⟩
set_option maxHeartbeats 1000000 in
theorem kTake1 {B g cap X : Nat} {a n : Int} {w : World} (h : Row1 B g cap X 1 a 0 w) :
    Calls Try.prog 29 #[.pointer (some ⟨g, 0, none⟩), .int .i64 n] w fun e w' => e = .returned (.tuple #[]) ∧ Row1 B g cap X 2 a n w' ∧ K2 g g w w' := by
  obtain ⟨c0, c1, c2, c3, cf, gl, _⟩ := h.at_
  have HH : Hid _ := h
  clear h
  go_enter Try.func29, Try.ntmps29
  go_wp2
  go_region
  all_goals go_wp2
  all_goals go_end0
  all_goals exact ⟨rfl, Row1.set (Row1.set HH.out 3 (.int .i64 n) 1 a n rfl) 1 (.int .i64 2) 2 a n rfl, ((K2.set (j := 3) (y := .int .i64 n)).trans (K2.set (j := 1) (y := .int .i64 2))).drew⟩
set_option maxHeartbeats 1000000 in
theorem kNext (c : Nat) (hc : c < 2) {B g cap X K : Nat} {n0 n1 op : Int} {nm vl : ByteArray} {pl : Bool} {p : Int} {w : World} (h : Row1 B g cap X c n0 n1 w) (hx : XAt X 0 op nm vl pl (.slice (some ⟨K, 0, none⟩) 2 2) p w) (h1 : 13 ≤ op) :
    Calls Try.prog 30 #[.pointer (some ⟨g, 0, none⟩)] w fun e w' => e = .returned (.pointer (some ⟨K, c * 6, none⟩)) ∧ w' = w := by
  obtain ⟨c0, c1, c2, c3, cf, gl, _⟩ := h.at_
  have x0 := hx.c0
  have x4 := hx.c4
  have e6 : (op == 6) = false := by rw [beq_eq_false_iff_ne]; omega
  clear h hx
  have hcc : c = 0 ∨ c = 1 := by omega
  rcases hcc with rfl | rfl
  all_goals
    go_enter Try.func30, Try.ntmps30
    go_wp2
    go_ret
    exact ⟨rfl, rfl⟩
set_option maxHeartbeats 1000000 in
theorem kNext2 {B g cap X K : Nat} {n0 n1 op : Int} {nm vl : ByteArray} {pl : Bool} {p : Int} {w : World} (h : Row1 B g cap X 2 n0 n1 w) (hx : XAt X 0 op nm vl pl (.slice (some ⟨K, 0, none⟩) 2 2) p w) (h1 : 13 ≤ op) :
    Calls Try.prog 30 #[.pointer (some ⟨g, 0, none⟩)] w fun e w' => e = .returned (.pointer none) ∧ w' = w := by
  obtain ⟨c0, c1, c2, c3, cf, gl, _⟩ := h.at_
  have x0 := hx.c0
  have x4 := hx.c4
  have e6 : (op == 6) = false := by rw [beq_eq_false_iff_ne]; omega
  clear h hx
  go_enter Try.func30, Try.ntmps30
  go_wp2
  go_ret
  exact ⟨rfl, rfl⟩
end Go.Proofs.Ytbpjgfemopakcaa
