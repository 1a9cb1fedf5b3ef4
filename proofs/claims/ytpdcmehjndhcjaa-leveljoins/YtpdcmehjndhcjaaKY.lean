/- The shared book's back: delays and data hang on what stands behind them. -/
import Derived.Test.YtpdcmehjndhcjaaKX
namespace Go.Proofs.Ytpdcmehjndhcjaa
open Go.RowKit Lg Nl Go.Maps
set_option linter.unusedVariables false
set_option linter.unusedSimpArgs false

/-- gates: five numbers each, in a block ahead of B -/
def GsAt (w : World) (B : Nat) (v : Value) (m : Nat) (F : Nat → Nat → Int) : Prop :=
  ∃ ao cap, v = .slice ao m cap ∧ (m = 0 ∨ ∃ g o, ao = some ⟨g, o, none⟩ ∧ g < B ∧ B ≤ w.heap.size ∧ ∀ j q, j < m → q < 5 → w.cell? ⟨g, o + j * 5 + q, none⟩ = some (.int .i64 (F j q)))
theorem GsAt.below {w w' : World} {B m : Nat} {v : Value} {F : Nat → Nat → Int} (h : GsAt w B v m F) (hb : Below B w w') : GsAt w' B v m F := by
  obtain ⟨ao, cap, rfl, h⟩ := h
  refine ⟨ao, cap, rfl, ?_⟩
  rcases h with h | ⟨g, o, rfl, hg, hB, h⟩
  · exact Or.inl h
  · exact Or.inr ⟨g, o, rfl, hg, Nat.le_trans hB hb.size, fun j q hj hq => by rw [World.cell?_of_block (w := w) (a := ⟨g, o + j * 5 + q, none⟩) (hb.block g hg)]; exact h j q hj hq⟩
theorem Mk.delay {l : List Nd} (h : Mk l) {i t : Nat} (hi : i < l.length) (ht : t < l.length) (hk : (l[i]'hi).k = 8) (hw : wdAt l (t : Int) = (l[i]'hi).wd) : Mk (l.set i { (l[i]'hi) with ins := [(t : Int)] }) := by
  have a := h.ok i hi
  rw [ndAt_eq hi] at a
  refine h.set hi (by rw [ndAt_eq hi]) (by rw [ndAt_eq hi]) ⟨a.w, a.z, by simp [inB]; omega, ?_, a.ki, ?_⟩
  · have b := a.n
    unfold nodeB at b ⊢
    simp only [hk] at b ⊢
    simp at b ⊢
    refine ⟨by simp [wsOf], by simp [wsOf, wn, hw], b.2.2⟩
  · intro y hy
    unfold hangL at hy
    simp only [hk] at hy
    simp at hy
theorem Mk.flip {l : List Nd} (h : Mk l) {i t : Nat} (hi : i < l.length) (ht : t < l.length) (hk : (l[i]'hi).k = 7) (hw : wdAt l (t : Int) = (l[i]'hi).wd) : ∃ c d, (l[i]'hi).ins = [c, d] ∧ Mk (l.set i { (l[i]'hi) with ins := [c, (t : Int)] }) := by
  have a := h.ok i hi
  rw [ndAt_eq hi] at a
  have hl2 := node_flip hk a.n
  rw [wsOf_len] at hl2
  obtain ⟨c, d, hcd⟩ : ∃ c d, (l[i]'hi).ins = [c, d] := by
    rcases hq : (l[i]'hi).ins with _ | ⟨c, _ | ⟨d, _ | ⟨e, r⟩⟩⟩
    · rw [hq] at hl2; simp at hl2
    · rw [hq] at hl2; simp at hl2
    · exact ⟨c, d, rfl⟩
    · rw [hq] at hl2; simp at hl2
  refine ⟨c, d, hcd, ?_⟩
  have hci : inB l.length c = true := by have := a.ii; rw [hcd] at this; simp at this; exact this.1
  refine h.set hi (by rw [ndAt_eq hi]) (by rw [ndAt_eq hi]) ⟨a.w, a.z, by simp [hci]; simp [inB]; omega, ?_, a.ki, ?_⟩
  · unfold nodeB
    simp only [hk]
    simp
    refine ⟨by simp [wsOf], by simp [wsOf, wn, hw]⟩
  · intro y hy
    refine a.h y ?_
    unfold hangL at hy ⊢
    simp only [hk] at hy ⊢
    rw [hcd]
    simpa using hy
end Go.Proofs.Ytpdcmehjndhcjaa
