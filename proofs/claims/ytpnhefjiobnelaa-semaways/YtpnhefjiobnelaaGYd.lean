/- Texts YI YP, joined: what each part says stands ahead of it. -/
import Derived.Test.YtpnhefjiobnelaaGX
import Derived.Test.YtpnhefjiobnelaaYO
/- Layer 2, the reference: tokens, and reasons, held against one another. -/
namespace Go.Proofs.Ytpnhefjiobnelaa
open Go.RowKit Lg
set_option linter.unusedVariables false
set_option linter.unusedSimpArgs false

end Go.Proofs.Ytpnhefjiobnelaa

/- Layer 2: the program's tokens and the reference's. -/
namespace Go.Proofs.Ytpnhefjiobnelaa
open Go.RowKit Lg
set_option linter.unusedVariables false
set_option linter.unusedSimpArgs false

theorem rLex_t (s : ByteArray) (w : World) (hs : s.size ≤ maxLen) (l : List Tok) (hl : lexL (L s) = .toks l) :
    Calls Try.prog 9 #[.string s] w fun e w' => ∃ g cap, e = .returned (.tuple #[.slice (some ⟨g, 0, none⟩) l.length cap, .slice none 0 0]) ∧ Lie w' w.heap.size g cap l ∧ Below w.heap.size w w' := by
  refine (rLex_c s w hs).mono ?_
  intro e w' h
  unfold LexOut at h
  rw [hl] at h
  obtain ⟨v, he, ho, hb⟩ := h
  obtain ⟨g, cap, rfl, h1, h2, h3, h4⟩ := own_some ho (lexL_ne hl)
  exact ⟨g, cap, he, ⟨h1, h2, h3, h4⟩, hb⟩
theorem rLex_b (s : ByteArray) (w : World) (hs : s.size ≤ maxLen) (p : Nat) (c : Int) (hl : lexL (L s) = .bad p c) :
    Calls Try.prog 9 #[.string s] w fun e w' => ∃ g, e = .returned (.tuple #[.slice none 0 0, .slice (some ⟨g, 0, none⟩) 1 1]) ∧ (w.heap.size ≤ g ∧ g < w'.heap.size ∧ w'.cell? ⟨g, 0, none⟩ = some (.int .i64 p) ∧ w'.cell? ⟨g, 1, none⟩ = some (.int .i64 c)) ∧ Below w.heap.size w w' := by
  refine (rLex_c s w hs).mono ?_
  intro e w' h
  unfold LexOut at h
  rw [hl] at h
  obtain ⟨g, he, hg, hh, hb⟩ := h
  exact ⟨g, he, ⟨hg, heap_lt hh, by rw [Lib.cell_of_heap hh]; rfl, by rw [Lib.cell_of_heap hh]; rfl⟩, hb⟩
end Go.Proofs.Ytpnhefjiobnelaa
