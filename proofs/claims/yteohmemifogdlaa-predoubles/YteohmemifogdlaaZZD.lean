/- Layer 3's statements: the program is awake. -/
import Derived.Test.YteohmemifogdlaaZZB
import Derived.Test.YteohmemifogdlaaZZC
namespace Go.Proofs.Yteohmemifogdlaa
open Go.RowKit Lg
set_option linter.unusedVariables false
set_option linter.unusedSimpArgs false

theorem Run_t (src : List Tok) (e0 : Tok) (B g cap : Nat) (w : World) (hL : Lie w B g cap (src ++ [e0])) (hl : src.length ≤ 16384) (hsz : ∀ t ∈ src, t.x.length ≤ 65536) (a : List Tok) (hr : runP e0 src ps0 = .ok a) (ha : 0 < a.length) :
    Calls Try.prog 8 #[.slice (some ⟨g, 0, none⟩) (src ++ [e0]).length cap] w fun e w' => ∃ g2 c2, e = .returned (.tuple #[.slice (some ⟨g2, 0, none⟩) a.length c2, .slice none 0 0]) ∧ Lie w' w.heap.size g2 c2 a ∧ Below w.heap.size w w' := by
  refine (Run_c src e0 B g cap w hL hl hsz).mono ?_
  intro e w' h
  rw [preL_eq src e0 hl, hr] at h
  obtain ⟨⟨v, he, ho⟩, hb⟩ := h
  obtain ⟨g2, c2, rfl, h1, h2, h3, h4⟩ := own_some ho ha
  exact ⟨g2, c2, he, ⟨h1, h2, h3, h4⟩, hb⟩
theorem Run_b (src : List Tok) (e0 : Tok) (B g cap : Nat) (w : World) (hL : Lie w B g cap (src ++ [e0])) (hl : src.length ≤ 16384) (hsz : ∀ t ∈ src, t.x.length ≤ 65536) (p : Nat) (c : Int) (hr : runP e0 src ps0 = .no p c) :
    Calls Try.prog 8 #[.slice (some ⟨g, 0, none⟩) (src ++ [e0]).length cap] w fun e w' => ∃ g2, e = .returned (.tuple #[.slice none 0 0, .slice (some ⟨g2, 0, none⟩) 1 1]) ∧ (w.heap.size ≤ g2 ∧ g2 < w'.heap.size ∧ w'.cell? ⟨g2, 0, none⟩ = some (.int .i64 p) ∧ w'.cell? ⟨g2, 1, none⟩ = some (.int .i64 c)) ∧ Below w.heap.size w w' := by
  refine (Run_c src e0 B g cap w hL hl hsz).mono ?_
  intro e w' h
  rw [preL_eq src e0 hl, hr] at h
  obtain ⟨⟨g2, he, hg, hh⟩, hb⟩ := h
  exact ⟨g2, he, ⟨hg, heap_lt hh, by rw [Lib.cell_of_heap hh]; rfl, by rw [Lib.cell_of_heap hh]; rfl⟩, hb⟩
set_option maxRecDepth 100000 in
set_option maxHeartbeats 4000000 in
theorem awake3_c (w : World) : Calls Try.prog 7 #[] w fun e w' => e = .returned (.bool true) ∧ Below w.heap.size w w' := by
  have HL1 : ∀ w, Calls Try.prog 6 #[.string ⟨#[96, 100, 101, 102, 105, 110, 101, 32, 65, 32, 49, 32, 43, 32, 49, 10, 96, 65, 32, 59]⟩] w fun e w' => ∃ g cap, e = .returned (.slice (some ⟨g, 0, none⟩) 9 cap) ∧ Lie w' w.heap.size g cap (awK1 ++ [⟨6, [], 20⟩]) ∧ Below w.heap.size w w' := fun w => lexed_t ⟨#[96, 100, 101, 102, 105, 110, 101, 32, 65, 32, 49, 32, 43, 32, 49, 10, 96, 65, 32, 59]⟩ w (by decide) (awK1 ++ [(⟨6, [], 20⟩ : Tok)]) aw1_lex
  have HL2 : ∀ w, Calls Try.prog 6 #[.string ⟨#[96, 100, 101, 102, 105, 110, 101, 32, 66, 32, 96, 66, 10, 96, 66]⟩] w fun e w' => ∃ g cap, e = .returned (.slice (some ⟨g, 0, none⟩) 6 cap) ∧ Lie w' w.heap.size g cap (awK2 ++ [⟨6, [], 15⟩]) ∧ Below w.heap.size w w' := fun w => lexed_t ⟨#[96, 100, 101, 102, 105, 110, 101, 32, 66, 32, 96, 66, 10, 96, 66]⟩ w (by decide) (awK2 ++ [(⟨6, [], 15⟩ : Tok)]) aw2_lex
  have HR1 : ∀ w B g cap, Lie w B g cap (awK1 ++ [⟨6, [], 20⟩]) → Calls Try.prog 8 #[.slice (some ⟨g, 0, none⟩) 9 cap] w fun e w' => ∃ g2 c2, e = .returned (.tuple #[.slice (some ⟨g2, 0, none⟩) 5 c2, .slice none 0 0]) ∧ Lie w' w.heap.size g2 c2 [⟨2, [49], 16⟩, ⟨3, [43], 16⟩, ⟨2, [49], 16⟩, ⟨3, [59], 19⟩, ⟨6, [], 20⟩] ∧ Below w.heap.size w w' := fun w B g cap h => Run_t awK1 ⟨6, [], 20⟩ B g cap w h (by decide) (by decide) _ (aw1_run _) (by decide)
  have HR2 : ∀ w B g cap, Lie w B g cap (awK2 ++ [⟨6, [], 15⟩]) → Calls Try.prog 8 #[.slice (some ⟨g, 0, none⟩) 6 cap] w fun e w' => ∃ g2, e = .returned (.tuple #[.slice none 0 0, .slice (some ⟨g2, 0, none⟩) 1 1]) ∧ (w.heap.size ≤ g2 ∧ g2 < w'.heap.size ∧ w'.cell? ⟨g2, 0, none⟩ = some (.int .i64 (13 : Nat)) ∧ w'.cell? ⟨g2, 1, none⟩ = some (.int .i64 31)) ∧ Below w.heap.size w w' := fun w B g cap h => Run_b awK2 ⟨6, [], 15⟩ B g cap w h (by decide) (by decide) _ _ (aw2_run _)
  have run : Below w.heap.size w w := Below.refl _ _
  go_enter Try.func7, Try.ntmps7
  go_wp2_with (first
    | (go_at_call_of 6 (Value.string ⟨#[96, 100, 101, 102, 105, 110, 101, 32, 65, 32, 49, 32, 43, 32, 49, 10, 96, 65, 32, 59]⟩); refine (HL1 _).mono ?_; rintro e w1 ⟨g1, k1, rfl, hl1, hb1⟩; replace run := bel run hb1)
    | (go_at_call_of 8 (Value.slice (some ⟨g1, 0, none⟩) 9 k1); refine (HR1 _ _ _ _ hl1).mono ?_; rintro e w2 ⟨g2, k2, rfl, hl2, hb2⟩; replace run := bel run hb2)
    | (go_at_call 6; refine (HL2 _).mono ?_; rintro e w3 ⟨g3, k3, rfl, hl3, hb3⟩; replace run := bel run hb3)
    | (go_at_call 8; refine (HR2 _ _ _ _ hl3).mono ?_; rintro e w4 ⟨g4, rfl, ⟨_, hg4, hc4, hd4⟩, hb4⟩; replace run := bel run hb4; have c4 := ((hl2.keep hb3).keep hb4).at_ 4 (.string ⟨#[43]⟩) rfl; have c5 := ((hl2.keep hb3).keep hb4).at_ 5 (.int .i64 16) rfl; have l2 := ((hl2.keep hb3).keep hb4).lt))
  go_ret
  exact ⟨rfl, run⟩
end Go.Proofs.Yteohmemifogdlaa
