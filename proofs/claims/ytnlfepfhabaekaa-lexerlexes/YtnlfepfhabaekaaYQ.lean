/- Layer 2: the tokens of any source are the document's. -/
import Derived.Test.YtnlfepfhabaekaaYP
namespace Go.Proofs.Ytnlfepfhabaekaa
open Go.RowKit Lg
set_option linter.unusedVariables false
set_option linter.unusedSimpArgs false

theorem lexL_len {l : List UInt8} {t : List Tok} (h : lexL l = .toks t) : t.length ≤ 1000000 := by
  unfold lexL at h
  split at h
  · cases h
  · rename_i hl
    cases hg : lexG 0 l false 0 with
    | bad p e => rw [hg] at h; cases h
    | toks t0 =>
      rw [hg] at h
      injection h with h
      subst h
      have : ∀ (f p : Nat) (df : Bool) (n : Nat) (ts : List Tok) (m : List UInt8), m.length ≤ f → lexG p m df n = .toks ts → ts.length ≤ m.length := by
        intro f
        induction f with
        | zero =>
          intro p df n ts m hm h
          obtain rfl : m = [] := List.eq_nil_of_length_eq_zero (by omega)
          rw [lexG_nil] at h; injection h with h; subst h; simp
        | succ f ih =>
          intro p df n ts m hm h
          cases m with
          | nil => rw [lexG_nil] at h; injection h with h; subst h; simp
          | cons c r =>
            have hsp := stp_pos df c r
            cases hq : stp df c r with
            | skip k =>
              rw [hq] at hsp
              have hs2 : 1 ≤ k ∧ k ≤ (c :: r).length := hsp
              rw [lexG_skip hq] at h
              have := ih _ _ _ _ _ (by rw [List.length_drop]; omega) h
              rw [List.length_drop] at this; omega
            | err e => rw [lexG_err hq] at h; cases h
            | tk k x j =>
              rw [hq] at hsp
              have hs2 : 1 ≤ j ∧ j ≤ (c :: r).length := hsp
              by_cases hn : n = 16384
              · rw [lexG_full hq hn] at h; cases h
              · rw [lexG_tk hq hn] at h
                cases hg : lexG (p + j) ((c :: r).drop j) (dfN df k x) (n + 1) with
                | bad q e => rw [hg] at h; cases h
                | toks us =>
                  rw [hg] at h
                  injection h with h
                  subst h
                  have := ih _ _ _ _ _ (by rw [List.length_drop]; omega) hg
                  rw [List.length_drop] at this
                  simp only [List.length_cons] at *
                  omega
      have := this _ _ _ _ _ _ (Nat.le_refl _) hg
      rw [List.length_append]; simp; omega
set_option maxHeartbeats 2000000 in
theorem lexes_b (s : ByteArray) (m : Int) (w : World) (hs : s.size ≤ maxLen) (hm : w.cell? ⟨0, 0, none⟩ = some (.int .i64 m)) (h0 : 0 < w.heap.size) (p : Nat) (c : Int) (hl : lexL (L s) = .bad p c) :
    Calls Try.prog 3 #[.string s] w fun e w' => e = .returned (.bool true) ∧ Below w.heap.size w w' := by
  have HL := Lex_b s m w hs hm h0 p c hl
  have HR := fun w => rLex_b s w hs p c hl
  clear hl
  go_enter Try.func3, Try.ntmps3
  go_wp2_with (first
    | (go_at_call 9; refine HL.mono ?_; rintro e w1 ⟨g1, rfl, ⟨hg, hgl, d0, d1⟩, hb1⟩)
    | (go_at_call 10; refine (HR _).mono ?_; rintro e w2 ⟨g2, rfl, ⟨kg, kgl, e0, e1⟩, hb2⟩)
    | (go_at_call 11; refine (same_0 _).mono ?_; rintro e w3 ⟨rfl, hb3⟩)
    | (go_at_call 12; refine (sameD_1 g1 g2 p c _ ((hb3.cell (p := ⟨g1, 0, none⟩) (Nat.lt_of_lt_of_le hgl hb2.size)).trans ((hb2.cell (p := ⟨g1, 0, none⟩) hgl).trans d0)) ((hb3.cell (p := ⟨g1, 1, none⟩) (Nat.lt_of_lt_of_le hgl hb2.size)).trans ((hb2.cell (p := ⟨g1, 1, none⟩) hgl).trans d1)) ((hb3.cell (p := ⟨g2, 0, none⟩) kgl).trans e0) ((hb3.cell (p := ⟨g2, 1, none⟩) kgl).trans e1)).mono ?_; rintro e w4 ⟨rfl, hb4⟩; have hball := bel (bel (bel hb1 hb2) hb3) hb4; have hm1 := (hball.cell (p := ⟨0, 0, none⟩) h0).trans hm)
    | (go_at_call 13; refine (awake_c m _ hm1 (Nat.lt_of_lt_of_le h0 hball.size)).mono ?_; rintro e w5 ⟨rfl, hb5⟩))
  go_ret
  exact ⟨rfl, bel hball hb5⟩
set_option maxHeartbeats 2000000 in
theorem lexes_t (s : ByteArray) (m : Int) (w : World) (hs : s.size ≤ maxLen) (hm : w.cell? ⟨0, 0, none⟩ = some (.int .i64 m)) (h0 : 0 < w.heap.size) (l : List Tok) (hl : lexL (L s) = .toks l) :
    Calls Try.prog 3 #[.string s] w fun e w' => e = .returned (.bool true) ∧ Below w.heap.size w w' := by
  have HL := Lex_t s m w hs hm h0 l hl
  have HR := fun w => rLex_t s w hs l hl
  have hll := lexL_len hl
  have HS := fun B1 B2 g1 c1 g2 c2 w h1 h2 => same_t l B1 B2 g1 c1 g2 c2 w h1 h2 hll
  obtain ⟨n, hn⟩ : ∃ n, l.length = n := ⟨_, rfl⟩
  rw [hn] at HL HR HS
  clear hl hll hn
  go_enter Try.func3, Try.ntmps3
  go_wp2_with (first
    | (go_at_call 9; refine HL.mono ?_; rintro e w1 ⟨g1, c1, rfl, hl1, hb1⟩)
    | (go_at_call 10; refine (HR _).mono ?_; rintro e w2 ⟨g2, c2, rfl, hl2, hb2⟩)
    | (go_at_call 11; refine (HS _ _ _ _ _ _ _ (hl1.keep hb2) hl2).mono ?_; rintro e w3 ⟨rfl, hb3⟩)
    | (go_at_call 12; refine (sameD_0 _).mono ?_; rintro e w4 ⟨rfl, hb4⟩; have hball := bel (bel (bel hb1 hb2) hb3) hb4; have hm1 := (hball.cell (p := ⟨0, 0, none⟩) h0).trans hm)
    | (go_at_call 13; refine (awake_c m _ hm1 (Nat.lt_of_lt_of_le h0 hball.size)).mono ?_; rintro e w5 ⟨rfl, hb5⟩))
  go_ret
  exact ⟨rfl, bel hball hb5⟩
theorem LexerLexes_c (s : ByteArray) (m : Int) (w : World) (hs : s.size ≤ maxLen) (hm : w.cell? ⟨0, 0, none⟩ = some (.int .i64 m)) (h0 : 0 < w.heap.size) :
    Calls Try.prog 3 #[.string s] w fun e w' => e = .returned (.bool true) ∧ Below w.heap.size w w' := by
  cases hl : lexL (L s) with
  | toks t => exact lexes_t s m w hs hm h0 t hl
  | bad p c => exact lexes_b s m w hs hm h0 p c hl
end Go.Proofs.Ytnlfepfhabaekaa
