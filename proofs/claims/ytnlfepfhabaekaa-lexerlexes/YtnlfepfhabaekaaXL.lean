/- Layer 2: the program is awake. -/
import Derived.Test.YtnlfepfhabaekaaXK
namespace Go.Proofs.Ytnlfepfhabaekaa
open Go.RowKit Lg
set_option linter.unusedVariables false
set_option linter.unusedSimpArgs false

theorem own_some {w : World} {B e z n : Nat} {v : Value} {xs : List Value} (h : w.ownsRow B e z v n xs) (hn : 0 < n) : ∃ g cap, v = .slice (some ⟨g, 0, none⟩) n cap ∧ B ≤ g ∧ g < w.heap.size ∧ (n ≤ cap ∧ n ≤ 9223372036854775807) ∧ (∀ j u, xs[j]? = some u → w.cell? ⟨g, j, none⟩ = some u) := by
  obtain ⟨h1, h2⟩ := h
  rcases h2 with ⟨_, h2⟩ | ⟨g, cap, cur, hv, hg, hh, hc1, hc2, hc3, hc4⟩
  · omega
  · refine ⟨g, cap, hv, hg, heap_lt hh, ⟨hc1, by unfold maxLen at hc2; omega⟩, fun j u hu => ?_⟩
    rw [Lib.cell_of_heap hh]
    rw [← hc4] at hu
    rcases Nat.lt_or_ge j (n * z) with hj | hj
    · rw [List.getElem?_take_of_lt hj] at hu
      simpa using hu
    · rw [List.getElem?_eq_none (by simp; omega)] at hu; cases hu
theorem lexL_ne {l : List UInt8} {t : List Tok} (h : lexL l = .toks t) : 0 < t.length := by
  unfold lexL at h
  split at h
  · cases h
  · cases hg : lexG 0 l false 0 with
    | toks t0 => rw [hg] at h; injection h with h; subst h; simp
    | bad p e => rw [hg] at h; cases h
/-- where tokens lie -/
structure Lie (w : World) (B g cap : Nat) (l : List Tok) : Prop where
  ge : B ≤ g
  lt : g < w.heap.size
  cap : l.length ≤ cap ∧ l.length ≤ 9223372036854775807
  at_ : ∀ j u, (tcells l)[j]? = some u → w.cell? ⟨g, j, none⟩ = some u
theorem Lie.keep {w w' : World} {B g cap : Nat} {l : List Tok} (h : Lie w B g cap l) (hb : Below w.heap.size w w') : Lie w' B g cap l :=
  ⟨h.ge, Nat.lt_of_lt_of_le h.lt hb.size, h.cap, fun j u hu => by rw [hb.cell (p := ⟨g, j, none⟩) h.lt]; exact h.at_ j u hu⟩
theorem Lex_t (s : ByteArray) (m : Int) (w : World) (hs : s.size ≤ maxLen) (hm : w.cell? ⟨0, 0, none⟩ = some (.int .i64 m)) (h0 : 0 < w.heap.size) (l : List Tok) (hl : lexL (L s) = .toks l) :
    Calls Try.prog 9 #[.string s] w fun e w' => ∃ g cap, e = .returned (.tuple #[.slice (some ⟨g, 0, none⟩) l.length cap, .slice none 0 0]) ∧ Lie w' w.heap.size g cap l ∧ Below w.heap.size w w' := by
  refine (Lex_c s m w hs hm h0).mono ?_
  intro e w' h
  unfold LexOut at h
  rw [hl] at h
  obtain ⟨v, he, ho, hb⟩ := h
  obtain ⟨g, cap, rfl, h1, h2, h3, h4⟩ := own_some ho (lexL_ne hl)
  exact ⟨g, cap, he, ⟨h1, h2, h3, h4⟩, hb⟩
theorem Lex_b (s : ByteArray) (m : Int) (w : World) (hs : s.size ≤ maxLen) (hm : w.cell? ⟨0, 0, none⟩ = some (.int .i64 m)) (h0 : 0 < w.heap.size) (p : Nat) (c : Int) (hl : lexL (L s) = .bad p c) :
    Calls Try.prog 9 #[.string s] w fun e w' => ∃ g, e = .returned (.tuple #[.slice none 0 0, .slice (some ⟨g, 0, none⟩) 1 1]) ∧ (w.heap.size ≤ g ∧ g < w'.heap.size ∧ w'.cell? ⟨g, 0, none⟩ = some (.int .i64 p) ∧ w'.cell? ⟨g, 1, none⟩ = some (.int .i64 c)) ∧ Below w.heap.size w w' := by
  refine (Lex_c s m w hs hm h0).mono ?_
  intro e w' h
  unfold LexOut at h
  rw [hl] at h
  obtain ⟨g, he, hg, hh, hb⟩ := h
  exact ⟨g, he, ⟨hg, heap_lt hh, by rw [Lib.cell_of_heap hh]; rfl, by rw [Lib.cell_of_heap hh]; rfl⟩, hb⟩
def awT : List Tok := [⟨1, [97], 0⟩, ⟨3, [60, 61], 2⟩, ⟨2, [52, 39, 98, 49, 120], 5⟩, ⟨3, [59], 10⟩, ⟨6, [], 16⟩]
theorem aw_lex : lexL [97, 32, 60, 61, 32, 52, 39, 98, 49, 120, 59, 32, 47, 47, 32, 99] = .toks awT := by
  have s9 : lexG 16 [] false 4 = .toks [] := lexG_nil _ _ _
  have s8 : lexG 12 [47, 47, 32, 99] false 4 = .toks [] := (lexG_skip (m := 4) rfl).trans s9
  have s7 : lexG 11 [32, 47, 47, 32, 99] false 4 = .toks [] := (lexG_skip (m := 1) rfl).trans s8
  have s6 : lexG 10 [59, 32, 47, 47, 32, 99] false 3 = Res.cons ⟨3, [59], 10⟩ (.toks []) := (lexG_tk (m := 1) rfl (by decide)).trans (congrArg _ s7)
  have s5 : lexG 5 [52, 39, 98, 49, 120, 59, 32, 47, 47, 32, 99] false 2 = Res.cons ⟨2, [52, 39, 98, 49, 120], 5⟩ (Res.cons ⟨3, [59], 10⟩ (.toks [])) := (lexG_tk (m := 5) rfl (by decide)).trans (congrArg _ s6)
  have s4 : lexG 4 [32, 52, 39, 98, 49, 120, 59, 32, 47, 47, 32, 99] false 2 = Res.cons ⟨2, [52, 39, 98, 49, 120], 5⟩ (Res.cons ⟨3, [59], 10⟩ (.toks [])) := (lexG_skip (m := 1) rfl).trans s5
  have s3 : lexG 2 [60, 61, 32, 52, 39, 98, 49, 120, 59, 32, 47, 47, 32, 99] false 1 = Res.cons ⟨3, [60, 61], 2⟩ (Res.cons ⟨2, [52, 39, 98, 49, 120], 5⟩ (Res.cons ⟨3, [59], 10⟩ (.toks []))) := (lexG_tk (m := 2) rfl (by decide)).trans (congrArg _ s4)
  have s2 : lexG 1 [32, 60, 61, 32, 52, 39, 98, 49, 120, 59, 32, 47, 47, 32, 99] false 1 = Res.cons ⟨3, [60, 61], 2⟩ (Res.cons ⟨2, [52, 39, 98, 49, 120], 5⟩ (Res.cons ⟨3, [59], 10⟩ (.toks []))) := (lexG_skip (m := 1) rfl).trans s3
  have s1 : lexG 0 [97, 32, 60, 61, 32, 52, 39, 98, 49, 120, 59, 32, 47, 47, 32, 99] false 0 = Res.cons ⟨1, [97], 0⟩ (Res.cons ⟨3, [60, 61], 2⟩ (Res.cons ⟨2, [52, 39, 98, 49, 120], 5⟩ (Res.cons ⟨3, [59], 10⟩ (.toks [])))) := (lexG_tk (m := 1) rfl (by decide)).trans (congrArg _ s2)
  unfold lexL
  rw [if_neg (by decide), s1]
  rfl
theorem aw_num : numS [52, 39, 98, 120] = [120, 120, 120, 120] ∧ numP [52, 39, 98, 120] = false ∧ numE2 [52, 39, 98, 120] = 0 := num_some (by rfl)

set_option maxHeartbeats 2000000 in
theorem awake_c (m : Int) (w : World) (hm : w.cell? ⟨0, 0, none⟩ = some (.int .i64 m)) (h0 : 0 < w.heap.size) :
    Calls Try.prog 13 #[] w fun e w' => e = .returned (.bool true) ∧ Below w.heap.size w w' := by
  have HL := Lex_t ⟨#[97, 32, 60, 61, 32, 52, 39, 98, 49, 120, 59, 32, 47, 47, 32, 99]⟩ m w (by decide) hm h0 awT aw_lex
  have HN : ∀ w, Calls Try.prog 25 #[.string ⟨#[52, 39, 98, 120]⟩] w fun e w' => e = .returned (.tuple #[.string ⟨#[120, 120, 120, 120]⟩, .bool false, .int .i64 0]) ∧ Below w.heap.size w w' := fun w => by
    refine (Number_c ⟨#[52, 39, 98, 120]⟩ w (by decide)).mono ?_
    rintro e w' ⟨rfl, hb⟩
    obtain ⟨a, b, c⟩ := aw_num
    exact ⟨by show Ending.returned (.tuple #[.string (S (numS [52, 39, 98, 120])), .bool (numP [52, 39, 98, 120]), .int .i64 (numE2 [52, 39, 98, 120])]) = _; rw [a, b, c]; rfl, hb⟩
  go_enter Try.func13, Try.ntmps13
  go_wp2_with (first
    | (go_at_call 9; refine HL.mono ?_; rintro e w1 ⟨g, cap, rfl, hlie, hb1⟩; rw [show awT.length = 5 from rfl])
    | (go_at_call 25; refine (HN _).mono ?_; rintro e w2 ⟨rfl, hb2⟩; have c7 := (hlie.keep hb2).at_ 7 (.string ⟨#[52, 39, 98, 49, 120]⟩) rfl; have c12 := (hlie.keep hb2).at_ 12 (.int .i64 6) rfl))
  go_ret
  exact ⟨rfl, bel hb1 hb2⟩
end Go.Proofs.Ytnlfepfhabaekaa
