/- Layer 3 of the program: all steps, if each does what it should. -/
import Derived.Test.YteohmemifogdlaaZS
namespace Go.Proofs.Yteohmemifogdlaa
open Go.RowKit Lg Go.Maps
set_option linter.unusedVariables false
set_option linter.unusedSimpArgs false

def StepOut (B b : Nat) (src : List Tok) (r : RB) (nD : Nat) (w : World) (res : Po) (e : Ending) (w' : World) : Prop :=
  match res with
  | .no p c => e = .panicked (pnc p c) ∧ Frm b r.mb B w w'
  | .go m s => e = .returned (.tuple #[]) ∧ (∃ r2 D2, r2.g = r.g ∧ r2.mb = r.mb ∧ r2.e = r.e ∧ r2.at_ = r.at_ + 1 + m ∧ Inv B b src r2 D2 (nD + 1) s.o s.kp w' ∧ NmOk r.g src D2 s.n) ∧ Frm b r.mb B w w'
/-- what a step does, whatever it stands on -/
def StepC : Prop := ∀ (B b : Nat) (src : List Tok) (r : RB) (D : DataW Value) (nD : Nat) (s : Ps) (w : World), Inv B b src r D nD s.o s.kp w → NmOk r.g src D s.n → (∀ t ∈ src, t.x.length ≤ 65536) → s.o.length ≤ r.at_ → s.kp.length ≤ 16384 → nD ≤ r.at_ →
  ∀ (t : Tok) (rest : List Tok), src.drop r.at_ = t :: rest → Calls Try.prog 18 #[.pointer (some ⟨b, 0, none⟩)] w fun e w' => StepOut B b src r nD w (stpP t rest s) e w'
/-- steps go on, and keep to their bounds -/
theorem stp_bounds {t : Tok} {rest : List Tok} {s s2 : Ps} {m : Nat} (h : stpP t rest s = .go m s2) (hk : s.kp.length ≤ 16384) : m ≤ rest.length ∧ s2.o.length ≤ s.o.length + 1 ∧ s2.kp.length ≤ 16384 := by
  have hkeep : ∀ l p, keepP l p s = .go m s2 → m ≤ rest.length ∧ s2.o.length ≤ s.o.length + 1 ∧ s2.kp.length ≤ 16384 := by
    intro l p h
    unfold keepP at h
    split at h
    · cases h
    · rename_i hl
      injection h with h1 h2
      subst h1 h2
      refine ⟨Nat.zero_le _, by show s.o.length ≤ _; omega, ?_⟩
      show (s.kp ++ l).length ≤ 16384
      rw [List.length_append]; omega
  have hname : ∀ x, nameAt rest = some x → 1 ≤ rest.length := by
    intro x hx
    cases rest with
    | nil => cases hx
    | cons a l => simp
  unfold stpP at h
  split at h
  · unfold splP at h
    split at h
    · split at h
      · cases h
      · split at h
        · cases h
        · injection h with h1 h2
          subst h1 h2
          refine ⟨Nat.zero_le _, ?_, hk⟩
          simp <;> omega
    split at h
    · split at h
      · cases h
      · injection h with h1 h2
        subst h1 h2
        exact ⟨Nat.zero_le _, by simp <;> omega, hk⟩
    · split at h
      · cases h
      · rename_i x hx
        injection h with h1 h2
        subst h1 h2
        exact ⟨hname x hx, by simp, hk⟩
  split at h
  · injection h with h1 h2; subst h1 h2; exact ⟨Nat.zero_le _, by omega, hk⟩
  split at h
  · unfold tckP at h
    split at h
    · split at h
      · cases h
      · rename_i x hx
        injection h with h1 h2
        subst h1 h2
        refine ⟨?_, by show s.o.length ≤ _; omega, hk⟩
        have h3 := hname x hx
        have h4 : (rest.tail.takeWhile notL).length ≤ rest.tail.length := (List.takeWhile_sublist _).length_le
        rw [List.length_tail] at h4; omega
    split at h
    · split at h
      · cases h
      · rename_i x hx
        injection h with h1 h2
        subst h1 h2
        exact ⟨hname x hx, by show s.o.length ≤ _; omega, hk⟩
    · unfold useP at h
      split at h
      · cases h
      · split at h
        · cases h
        · exact hkeep _ _ h
  split at h
  · injection h with h1 h2; subst h1 h2; exact ⟨Nat.zero_le _, by omega, hk⟩
  · exact hkeep _ _ h
end Go.Proofs.Yteohmemifogdlaa
