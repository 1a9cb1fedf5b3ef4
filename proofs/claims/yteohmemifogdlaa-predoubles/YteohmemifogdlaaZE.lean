/- Layer 3 of the program: else and endif. -/
import Derived.Test.YteohmemifogdlaaZD
namespace Go.Proofs.Yteohmemifogdlaa
open Go.RowKit Lg Go.Maps
set_option linter.unusedVariables false
set_option linter.unusedSimpArgs false

set_option maxHeartbeats 1000000 in
theorem innermost_none (b : Nat) (r : RB) (k : Int) (x : ByteArray) (p : Int) (w : World) (h : RBl b r w) (ao : Option Addr) (cap : Nat) (hv : r.vo = .slice ao 0 cap) :
    Calls Try.prog 36 #[.pointer (some ⟨b, 0, none⟩), .agg #[.int .i64 k, .string x, .int .i64 p]] w fun e w' => e = .panicked (pnc p 30) ∧ Below w.heap.size w w' := by
  obtain ⟨c0, c1, c2, c3, c4, c5, c6, c7, cf⟩ := h.at_
  rw [hv] at c6
  have hbl := heap_lt h
  have hne : b ≠ w.heap.size := by omega
  go_enter Try.func36, Try.ntmps36
  go_wp2_with (first | (go_at_call 19; refine (giveUp_c _ _ _).mono ?_; rintro e w' ⟨rfl, hw⟩; have hw2 := hw.symm; subst hw2))
  exact ⟨rfl, rfl, belA (Below.refl _ _) _⟩
set_option maxHeartbeats 1000000 in
theorem innermost_some (b : Nat) (r : RB) (k : Int) (x : ByteArray) (p : Int) (w : World) (h : RBl b r w) (g2 n cap : Nat) (hv : r.vo = .slice (some ⟨g2, 0, none⟩) (n + 1) cap) (hn : n ≤ 1000000) :
    Calls Try.prog 36 #[.pointer (some ⟨b, 0, none⟩), .agg #[.int .i64 k, .string x, .int .i64 p]] w fun e w' => e = .returned (.pointer (some ⟨g2, n * 4, none⟩)) ∧ Below w.heap.size w w' := by
  obtain ⟨c0, c1, c2, c3, c4, c5, c6, c7, cf⟩ := h.at_
  rw [hv] at c6
  have hbl := heap_lt h
  have hne : b ≠ w.heap.size := by omega
  have hnz : (((n : Nat) : Int) + 1 == 0) = false := by rw [beq_eq_false_iff_ne]; omega
  go_enter Try.func36, Try.ntmps36
  go_wp2
  go_region
  all_goals go_wp2
  all_goals go_ret
  all_goals exact ⟨rfl, (belA (Below.refl _ _) _).drew⟩
theorem own_in {w : World} {B e z n g cap j : Nat} {xs : List Value} {y : Value} (h : w.ownsRow B e z (.slice (some ⟨g, 0, none⟩) n cap) n xs) (hj : j < n * z) : (w.setCell ⟨g, j, none⟩ y).ownsRow B e z (.slice (some ⟨g, 0, none⟩) n cap) n (xs.set j y) := by
  obtain ⟨h1, h2⟩ := h
  refine ⟨by rw [List.length_set]; exact h1, ?_⟩
  rcases h2 with ⟨h2, _⟩ | ⟨g', cap', cur, hv, hg, hh, q1, q2, q3, q4⟩
  · cases h2
  · injection hv with a1 a2 a3
    injection a1 with a1
    injection a1 with a1
    subst a1 a3
    refine Or.inr ⟨g, cap, cur.setIfInBounds j y, rfl, hg, ?_, q1, q2, by simpa using q3, ?_⟩
    · simp only [World.setCell]; rw [Array.getElem?_modify, if_pos rfl, hh]; rfl
    · rw [Array.toList_setIfInBounds, List.take_set, q4]
theorem brcs_set (o : List Br) (b : Br) (kk : Bool) (h : o.getLast? = some b) (n : Nat) (hn : o.length = n + 1) :
    ((brcs o).set (n * 4 + 3) (.bool true)).set (n * 4 + 2) (.bool kk) = brcs (o.dropLast ++ [⟨b.p, b.a, kk, true⟩]) := by
  have e : o = o.dropLast ++ [b] := by obtain ⟨l, rfl⟩ := List.getLast?_eq_some_iff.1 h; simp
  have hl : (brcs o.dropLast).length = n * 4 := by rw [brcs_len, List.length_dropLast, hn]; rfl
  conv => lhs; rw [e]
  rw [brcs_app, brcs_app, brcs_one, brcs_one, List.set_append_right _ _ (by omega), List.set_append_right _ _ (by omega), hl]
  simp [brc]
end Go.Proofs.Yteohmemifogdlaa
