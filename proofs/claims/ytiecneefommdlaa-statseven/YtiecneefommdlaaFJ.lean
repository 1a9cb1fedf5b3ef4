/- Layer 20: quotients of opposites, of twice as much (plain). -/
import Derived.Test.YtiecneefommdlaaFI
namespace Go.Proofs.Ytiecneefommdlaa
set_option maxRecDepth 100000
open Go.RowKit Lg Nl Go.Maps Fl
set_option linter.unusedVariables false
set_option linter.unusedSimpArgs false

namespace Fl
open Ieee
theorem near_word (m : Nat) (i : Int) : ∃ R, R ≤ double.infRung ∧ ∀ s, double.nearest s m i = double.word s R := by
  by_cases h : m = 0
  · exact ⟨0, Nat.zero_le _, fun s => by unfold Format.nearest; rw [if_pos h]⟩
  · refine ⟨min ((max (i + m.log2 - double.fractionBits) double.leastPlace - double.leastPlace).toNat * double.binade + Toward.even.cut true (m <<< (i - max (i + m.log2 - double.fractionBits) double.leastPlace).toNat) (max (i + m.log2 - double.fractionBits) double.leastPlace - i).toNat) double.infRung, Nat.min_le_right _ _, fun s => ?_⟩
    unfold Format.nearest
    rw [if_neg h]
    cases s <;> rfl
theorem word_opp (s : Bool) {R : Nat} (h : R ≤ double.infRung) : rd (double.word (!s) R) = (rd (double.word s R)).opposite := by
  have hR : R < double.signWeight := by rw [sw_is]; rw [ir_is] at h; omega
  obtain ⟨a1, a2⟩ := word_sign s hR
  obtain ⟨b1, b2⟩ := word_sign (!s) hR
  rw [read_is _ _ _ a1 a2, read_is _ _ _ b1 b2]
  split
  · rfl
  · split
    · rfl
    · split <;> rfl
/-- what is written of an opposite -/
theorem write_opp (d : Datum) (h : d.isNaN = false) : rd (double.write d.opposite) = (rd (double.write d)).opposite := by
  cases d with
  | nan s f => cases h
  | infinity s => exact word_opp s (Nat.le_refl _)
  | number s m i =>
    obtain ⟨R, hR, hw⟩ := near_word m i
    show rd (double.nearest (!s) m i) = (rd (double.nearest s m i)).opposite
    rw [hw, hw]
    exact word_opp s hR
theorem write_nan (d : Datum) (h : d.isNaN = false) : nanB (double.write d) = false := by
  cases d with
  | nan s f => cases h
  | infinity s => exact word_nan s (Nat.le_refl _)
  | number s m i => exact near_nan s m i
theorem quot_opp (a b : Datum) (g : Nat) : Datum.quotient g a.opposite b = (Datum.quotient g a b).map Datum.opposite := by
  cases a with
  | nan s f => rfl
  | infinity s =>
    cases b with
    | nan t f => rfl
    | infinity t => rfl
    | number t n j => show some _ = some _; cases s <;> cases t <;> rfl
  | number s m i =>
    cases b with
    | nan t f => rfl
    | infinity t => show some _ = some _; cases s <;> cases t <;> rfl
    | number t n j =>
      show Datum.quotient g (.number (!s) m i) (.number t n j) = _
      rw [quot_nn, quot_nn]
      split
      · split
        · rfl
        · show some _ = some _; cases s <;> cases t <;> rfl
      · show some _ = some _; cases s <;> cases t <;> rfl
theorem quot_opp2 (a b : Datum) (g : Nat) : Datum.quotient g a b.opposite = (Datum.quotient g a b).map Datum.opposite := by
  cases a with
  | nan s f => rfl
  | infinity s =>
    cases b with
    | nan t f => rfl
    | infinity t => rfl
    | number t n j => show some _ = some _; cases s <;> cases t <;> rfl
  | number s m i =>
    cases b with
    | nan t f => rfl
    | infinity t => show some _ = some _; cases s <;> cases t <;> rfl
    | number t n j =>
      show Datum.quotient g (.number s m i) (.number (!t) n j) = _
      rw [quot_nn, quot_nn]
      split
      · split
        · rfl
        · show some _ = some _; cases s <;> cases t <;> rfl
      · show some _ = some _; cases s <;> cases t <;> rfl
theorem opp_opp (d : Datum) : d.opposite.opposite = d := by cases d <;> simp [Datum.opposite]
theorem quot_nan {g : Nat} {a b d : Datum} (h : Datum.quotient g a b = some d) : d.isNaN = false := by
  cases a with
  | nan s f => cases h
  | infinity s =>
    cases b with
    | nan t f => cases h
    | infinity t => cases h
    | number t n j => injection h with h; subst h; rfl
  | number s m i =>
    cases b with
    | nan t f => cases h
    | infinity t => injection h with h; subst h; rfl
    | number t n j =>
      rw [quot_nn] at h
      split at h
      · split at h
        · cases h
        · injection h with h; subst h; rfl
      · injection h with h; subst h; rfl
theorem same_rd {x y : Nat} (h : rd x = rd y) : sameB x y = true := by unfold sameB ordI; rw [h]; exact decide_eq_true (ordD_self _)
/-- a quotient is no number where the operation has no answer, and only there -/
theorem quo_nan {x y p : Nat} (h : quoP x y p) : nanB p = true ↔ floatBits .quo .f64 x y = none := by
  rcases h with h | ⟨h, hn⟩
  · rw [h]
    rw [div_eq] at h
    cases hd : (rd x).quotient 54 (rd y) with
    | none => rw [hd] at h; cases h
    | some d =>
      rw [hd] at h
      injection h with h
      rw [← h, write_nan d (quot_nan hd)]
      simp
  · rw [h]; simp [hn]
theorem quo_neg1 {x y p q : Nat} (h : quoP x y p) (h2 : quoP (Op.negFloat .f64 x) y q) : (nanB p = true → nanB q = true) ∧ (nanB p = false → sameB q (Op.negFloat .f64 p) = true) := by
  have e : floatBits .quo .f64 (Op.negFloat .f64 x) y = (((rd x).quotient 54 (rd y)).map Datum.opposite).map double.write := by rw [div_eq, rd_neg, quot_opp]
  refine ⟨fun hn => ?_, fun hn => ?_⟩
  · have h3 := (quo_nan h).1 hn
    rw [quo_nan h2, e]
    rw [div_eq] at h3
    cases hd : (rd x).quotient 54 (rd y) with
    | none => rfl
    | some d => rw [hd] at h3; cases h3
  · rcases h with h | ⟨h, hn2⟩
    · rw [div_eq] at h
      cases hd : (rd x).quotient 54 (rd y) with
      | none => rw [hd] at h; cases h
      | some d =>
        rw [hd] at h e
        injection h with h
        rcases h2 with h2 | ⟨h2, _⟩
        · rw [e] at h2
          injection h2 with h2
          refine same_rd ?_
          rw [rd_neg, ← h2, ← h]
          exact write_opp d (quot_nan hd)
        · rw [e] at h2; cases h2
    · rw [hn2] at hn; cases hn
theorem quo_neg2 {x y p r : Nat} (h : quoP x y p) (h2 : quoP (Op.negFloat .f64 x) (Op.negFloat .f64 y) r) : (nanB p = true → nanB r = true) ∧ sameB r p = true := by
  have e : floatBits .quo .f64 (Op.negFloat .f64 x) (Op.negFloat .f64 y) = floatBits .quo .f64 x y := by
    rw [div_eq, div_eq, rd_neg, rd_neg, quot_opp, quot_opp2]
    cases (rd x).quotient 54 (rd y) with
    | none => rfl
    | some d => show some (double.write d.opposite.opposite) = _; rw [opp_opp]; rfl
  have h3 : quoP x y r := by unfold quoP at *; rw [e] at h2; exact h2
  exact ⟨fun hn => (quo_nan h3).2 ((quo_nan h).1 hn), quo_same h3 h⟩
end Fl
end Go.Proofs.Ytiecneefommdlaa
