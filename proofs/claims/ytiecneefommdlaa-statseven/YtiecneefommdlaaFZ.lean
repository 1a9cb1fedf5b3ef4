/- Layer 20: Of at the empty waveform; awake of the landed code. -/
import Derived.Test.YtiecneefommdlaaFY
import Derived.Test.YtiecneefommdlaaFH
namespace Go.Proofs.Ytiecneefommdlaa
set_option maxRecDepth 100000
open Go.RowKit Lg Nl Go.Maps Wf Fl
set_option linter.unusedVariables false
set_option linter.unusedSimpArgs false

theorem quo00 {r : Nat} (h : quoP (fI 0) (fI 0) r) : nanB r = true := by
  rw [fI_0] at h
  have e : floatBits .quo .f64 0 0 = none := by decide +kernel
  rcases h with h | h
  · rw [e] at h; cases h
  · exact h.2
theorem wv0_ok : okS wv0 (-1) 0 = true := by decide +kernel
theorem wv0_at (w : World) : WvAt w (.slice none 0 0) (.slice none 0 0) (.slice none 0 0) (.slice none 0 0) wv0 :=
  ⟨⟨none, 0, rfl, ⟨Nat.le_refl _, fun _ => rfl⟩, Or.inl rfl⟩, ⟨none, 0, rfl, Nat.le_refl _, Or.inl rfl⟩, ⟨none, 0, rfl, ⟨Nat.le_refl _, fun _ => rfl⟩, Or.inl rfl⟩, ⟨none, 0, rfl, ⟨Nat.le_refl _, fun _ => rfl⟩, Or.inl rfl⟩⟩
theorem wv0_sz : Sz wv0 := ⟨fun s h => (by cases h), fun s h => (by cases h), fun s h => (by cases h), Nat.zero_le _⟩
theorem wv0_bd : Bd wv0 := ⟨Nat.zero_le _, Nat.zero_le _, Nat.zero_le _, Nat.zero_le _⟩
theorem ofz20 : OfZC := by
  intro w
  refine (of_yes wv0 _ _ _ _ (-1) 0 w (wv0_at w) wv0_sz wv0_bd (Nat.zero_le _) wv0_ok).mono ?_
  rintro e w' ⟨r, m, s, rfl, HV, hb⟩
  exact ⟨r, m, s, rfl, ⟨quo00 HV.out.rt, quo00 HV.out.mn⟩, hb⟩
theorem aw20 : Aw20C := awake20 ofz20 ord20 mil20
end Go.Proofs.Ytiecneefommdlaa
