/- Layer 3 of the program: a run. -/
import Derived.Test.YteohmemifogdlaaZZ
namespace Go.Proofs.Yteohmemifogdlaa
open Go.RowKit Lg Go.Maps
set_option linter.unusedVariables false
set_option linter.unusedSimpArgs false

theorem preL_eq (src : List Tok) (e : Tok) (h : src.length ≤ 16384) : preL (src ++ [e]) = runP e src ps0 := by
  unfold preL
  rw [if_neg (by simp), if_neg (by simp; omega)]
  simp
theorem all_out {b0 : Nat} {w w1 : World} {res : Pr} {e : Ending} {w' : World} (h : AllOut b0 w1 res e w') (hb : Below b0 w w1) : AllOut b0 w res e w' := by
  cases res with
  | no p c => exact ⟨h.1, hb.trans h.2⟩
  | ok l => exact ⟨h.1, hb.trans h.2⟩

/-- the run's steps, wherever the runner and its map lie -/
theorem run_call (src : List Tok) (e0 : Tok) (B g cap : Nat) (w : World) (hL : Lie w B g cap (src ++ [e0])) (hl : src.length ≤ 16384) (hsz : ∀ t ∈ src, t.x.length ≤ 65536) (hg : g < w.heap.size) (b mb : Nat) (w1 : World) (h1 : w.heap.size ≤ b) (h2 : w.heap.size ≤ mb) (h3 : Below w.heap.size w w1) (h4 : RBl b ⟨cap, g, src.length, e0, 0, mb, .slice none 0 0, .slice none 0 0⟩ w1) (h5 : w1.ownsMap Try.prog 9 rdV mb 0 (.map [])) :
    Calls Try.prog 12 #[.pointer (some ⟨b, 0, none⟩)] w1 fun e w' => AllOut w.heap.size w (preL (src ++ [e0])) e w' := by
  rw [preL_eq src e0 hl]
  have hcap : src.length + 1 ≤ cap := by have := hL.cap.1; simpa using this
  have hcells : ∀ j u, (tcells src)[j]? = some u → w.cell? ⟨g, j, none⟩ = some u := fun j u hu => hL.at_ j u (by rw [tcells_app]; rw [List.getElem?_append_left (Nat.lt_of_not_le fun x => by rw [List.getElem?_eq_none x] at hu; cases hu)]; exact hu)
  exact (all_c stepC b w.heap.size src _ w1 h4 h5 rfl rfl rfl (by have := h3.size; show g < _; omega) (by show g ≠ b; omega) (by show g ≠ mb; omega) ⟨rfl, by show src.length ≤ cap; omega, by omega⟩ (fun j u hu => by show w1.cell? ⟨g, j, none⟩ = _; rw [h3.cell (p := ⟨g, j, none⟩) hg]; exact hcells j u hu) hsz ⟨h1, h2⟩).mono fun e w' q => all_out q h3
end Go.Proofs.Yteohmemifogdlaa
