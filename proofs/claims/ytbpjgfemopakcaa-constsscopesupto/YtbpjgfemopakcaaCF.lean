/- Layer 6 of the program: a step comes to its number. -/
import Derived.Test.YtbpjgfemopakcaaCE
namespace Go.Proofs.Ytbpjgfemopakcaa
open Go.RowKit Lg Go.Maps
set_option linter.unusedVariables false
set_option linter.unusedSimpArgs false

/-- a step's cells -/
structure TAt (g X : Nat) (c n0 n1 : Int) (w : World) : Prop where
  c0 : w.cell? ⟨g, 0, none⟩ = some (.pointer (some ⟨X, 0, none⟩))
  c1 : w.cell? ⟨g, 1, none⟩ = some (.int .i64 c)
  c2 : w.cell? ⟨g, 2, none⟩ = some (.int .i64 n0)
  c3 : w.cell? ⟨g, 3, none⟩ = some (.int .i64 n1)
set_option maxHeartbeats 1000000 in
theorem kCounted {g X K : Nat} {c n0 n1 op : Int} {nm vl : ByteArray} {pl : Bool} {p : Int} {w : World} (h : TAt g X c n0 n1 w) (hx : XAt X 0 op nm vl pl (.slice (some ⟨K, 0, none⟩) 2 2) p w) (h1 : 13 ≤ op) (h2 : op ≤ 27) :
    Calls Try.prog 34 #[.pointer (some ⟨g, 0, none⟩)] w fun e w' => e = .returned (.bool true) ∧ Below w.heap.size w w' := by
  obtain ⟨c0, c1, c2, c3⟩ := h
  have x0 := hx.c0
  have x4 := hx.c4
  clear hx
  go_enter Try.func34, Try.ntmps34
  go_wp2
  go_quiet ((go_at_call 38; exact Calls.quiet_of_same (kParts2_c _ h1 h2 _)))
  all_goals go_wp2
  all_goals go_ret
  all_goals exact ⟨rfl, below_drewN (Below.refl _ _) _⟩
set_option maxRecDepth 100000 in
set_option maxHeartbeats 2000000 in
theorem kStep_ok {g X K : Nat} {c a b op : Int} {nm vl : ByteArray} {pl : Bool} {p : Int} {w : World} (h : TAt g X c a b w) (hx : XAt X 0 op nm vl pl (.slice (some ⟨K, 0, none⟩) 2 2) p w) (h1 : 13 ≤ op) (h2 : op ≤ 27) (ho : opB op a b) (ha : -2147483647 ≤ a) (ha2 : a ≤ 2147483647) (hb : -2147483647 ≤ b) (hb2 : b ≤ 2147483647)
    (r : Int) (hr : r = cmV op a b) (hf : fitB r = true) :
    Calls Try.prog 36 #[.pointer (some ⟨g, 0, none⟩)] w fun e w' => e = .returned (.int .i64 r) ∧ Below w.heap.size w w' := by
  have HC := kCounted h hx h1 h2
  obtain ⟨c0, c1, c2, c3⟩ := h
  have x0 := hx.c0
  have HT := fun w => kComes_c op a b ho ha ha2 hb hb2 w
  have HF := fun w => kFits_c r w
  rw [← hr] at HT
  rw [hf] at HF
  clear hx hr hf ho
  have hcell : ∀ w1, Below w.heap.size w w1 → ∀ g' j v, w.cell? ⟨g', j, none⟩ = some v → w1.cell? ⟨g', j, none⟩ = some v := by
    intro w1 hb1 g' j v hv
    by_cases hl : g' < w.heap.size
    · exact (hb1.cell (p := ⟨g', j, none⟩) hl).trans hv
    · exfalso
      unfold World.cell? at hv
      rw [Array.getElem?_eq_none (by show w.heap.size ≤ g'; omega)] at hv
      cases hv
  have HCE : Hid _ := hcell
  have HC0 : Hid _ := c0
  have HC2 : Hid _ := c2
  have HC3 : Hid _ := c3
  have HX0 : Hid _ := x0
  clear hcell
  go_enter Try.func36, Try.ntmps36
  go_wp2_with (first
    | (go_at_call 34; refine HC.mono ?_; rintro e w1 ⟨rfl, hb1⟩; have d0 := HCE.out _ hb1 _ _ _ HC0.out; have d2 := HCE.out _ hb1 _ _ _ HC2.out; have d3 := HCE.out _ hb1 _ _ _ HC3.out; have y0 := HCE.out _ hb1 _ _ _ HX0.out)
    | (go_at_call 23; refine (HF _).mono ?_; rintro e w' ⟨rfl, hw⟩; have hw2 := hw.symm; subst hw2))
  go_quiet ((go_at_call 39; exact Calls.quiet_of_same (HT _)))
  all_goals go_wp2_with (first
    | (go_at_call 23; refine (HF _).mono ?_; rintro e w' ⟨rfl, hw⟩; have hw2 := hw.symm; subst hw2))
  all_goals go_ret
  all_goals exact ⟨rfl, below_drewN hb1 _⟩
set_option maxRecDepth 100000 in
set_option maxHeartbeats 2000000 in
theorem kStep_over {g X K : Nat} {c a b op : Int} {nm vl : ByteArray} {pl : Bool} {p : Int} {w : World} (h : TAt g X c a b w) (hx : XAt X 0 op nm vl pl (.slice (some ⟨K, 0, none⟩) 2 2) p w) (h1 : 13 ≤ op) (h2 : op ≤ 27) (ho : opB op a b) (ha : -2147483647 ≤ a) (ha2 : a ≤ 2147483647) (hb : -2147483647 ≤ b) (hb2 : b ≤ 2147483647)
    (r : Int) (hr : r = cmV op a b) (hf : fitB r = false) :
    Calls Try.prog 36 #[.pointer (some ⟨g, 0, none⟩)] w fun e w' => e = .panicked (pnV p) ∧ Below w.heap.size w w' := by
  have HC := kCounted h hx h1 h2
  obtain ⟨c0, c1, c2, c3⟩ := h
  have x0 := hx.c0
  have x5 := hx.c5
  have HT := fun w => kComes_c op a b ho ha ha2 hb hb2 w
  have HF := fun w => kFits_c r w
  rw [← hr] at HT
  rw [hf] at HF
  clear hx hr hf ho
  have hcell : ∀ w1, Below w.heap.size w w1 → ∀ g' j v, w.cell? ⟨g', j, none⟩ = some v → w1.cell? ⟨g', j, none⟩ = some v := by
    intro w1 hb1 g' j v hv
    by_cases hl : g' < w.heap.size
    · exact (hb1.cell (p := ⟨g', j, none⟩) hl).trans hv
    · exfalso
      unfold World.cell? at hv
      rw [Array.getElem?_eq_none (by show w.heap.size ≤ g'; omega)] at hv
      cases hv
  have HCE : Hid _ := hcell
  have HC0 : Hid _ := c0
  have HC2 : Hid _ := c2
  have HC3 : Hid _ := c3
  have HX0 : Hid _ := x0
  have HX5 : Hid _ := x5
  clear hcell
  go_enter Try.func36, Try.ntmps36
  go_wp2_with (first
    | (go_at_call 34; refine HC.mono ?_; rintro e w1 ⟨rfl, hb1⟩; have d0 := HCE.out _ hb1 _ _ _ HC0.out; have d2 := HCE.out _ hb1 _ _ _ HC2.out; have d3 := HCE.out _ hb1 _ _ _ HC3.out; have y0 := HCE.out _ hb1 _ _ _ HX0.out; have y5 := HCE.out _ hb1 _ _ _ HX5.out)
    | (go_at_call 23; refine (HF _).mono ?_; rintro e w' ⟨rfl, hw⟩; have hw2 := hw.symm; subst hw2))
  go_quiet ((go_at_call 39; exact Calls.quiet_of_same (HT _)))
  all_goals go_wp2_with (first
    | (go_at_call 23; refine (HF _).mono ?_; rintro e w' ⟨rfl, hw⟩; have hw2 := hw.symm; subst hw2))
  all_goals exact ⟨rfl, rfl, below_drewN hb1 _⟩
end Go.Proofs.Ytbpjgfemopakcaa
