/- Layer 2, plain: where tokens stand. -/
import Derived.Test.YtnlfepfhabaekaaMathN
namespace Lg
open Go
/-- what stands at a token's place -/
def txt (t : Tok) : List UInt8 := if t.k = 4 then 96 :: t.x else if t.k = 5 then [10] else t.x
def kok (k : Int) : Prop := k = 1 ∨ k = 2 ∨ k = 3 ∨ k = 4 ∨ k = 5
theorem tw_take (q : UInt8 → Bool) (l : List UInt8) : l.take (l.takeWhile q).length = l.takeWhile q := by
  have := List.takeWhile_append_dropWhile (p := q) (l := l)
  conv => lhs; arg 2; rw [← this]
  rw [List.take_left]
theorem stp_tk {df : Bool} {c : UInt8} {r x : List UInt8} {k : Int} {m p : Nat} (h : stp df c r = .tk k x m) : kok k ∧ txt ⟨k, x, p⟩ = (c :: r).take m := by
  unfold stp at h
  split at h
  · rename_i hc
    injection h with h1 h2 h3
    subst h1 h2 h3
    rw [hc.1]
    exact ⟨by unfold kok; simp, rfl⟩
  split at h
  · cases h
  split at h
  · split at h <;> cases h
  split at h
  · rename_i hc
    unfold tickP at h
    split at h
    · cases h
    split at h
    · cases h
    · injection h with h1 h2 h3
      subst h1 h2 h3
      refine ⟨by unfold kok; simp, ?_⟩
      rw [Nat.add_comm, hc]
      show 96 :: wordL r = 96 :: r.take (wordL r).length
      rw [show r.take (wordL r).length = wordL r from tw_take _ _]
  split at h
  · split at h
    · cases h
    · injection h with h1 h2 h3
      subst h1 h2 h3
      exact ⟨by unfold kok; simp, (tw_take worB (c :: r)).symm⟩
  split at h
  · split at h
    · cases h
    · injection h with h1 h2 h3
      subst h1 h2 h3
      exact ⟨by unfold kok; simp, (tw_take numB (c :: r)).symm⟩
  split at h
  · injection h with h1 h2 h3
    subst h1 h2 h3
    exact ⟨by unfold kok; simp, rfl⟩
  · cases h
theorem stp_err0 {df : Bool} {c : UInt8} {r : List UInt8} {e : Int} (h : stp df c r = .err e) : e ≠ 0 := by
  have : e = 20 ∨ e = 4 ∨ e = 21 := by
    unfold stp tickP at h
    repeat' (split at h)
    all_goals first | (cases h; done) | (injection h with h; subst h; simp)
  rcases this with rfl | rfl | rfl <;> decide
/-- tokens stand in their order, and are what stands there -/
def okT (l : List UInt8) : Nat → List Tok → Prop
  | _, [] => True
  | e, t :: ts => e ≤ t.p ∧ 1 ≤ (txt t).length ∧ t.p + (txt t).length ≤ l.length ∧ (l.drop t.p).take (txt t).length = txt t ∧ kok t.k ∧ okT l (t.p + (txt t).length) ts
theorem okT_mono {l : List UInt8} {e e' : Nat} {ts : List Tok} (h : okT l e ts) (he : e' ≤ e) : okT l e' ts := by
  cases ts with
  | nil => trivial
  | cons t ts => exact ⟨Nat.le_trans he h.1, h.2⟩
theorem lex_ok (l : List UInt8) : ∀ (f p : Nat) (df : Bool) (n : Nat) (ts : List Tok), l.length - p ≤ f → p ≤ l.length → lexG p (l.drop p) df n = .toks ts → okT l p ts := by
  intro f
  induction f with
  | zero =>
    intro p df n ts hf hp h
    rw [List.drop_of_length_le (by omega), lexG_nil] at h
    injection h with h; subst h; trivial
  | succ f ih =>
    intro p df n ts hf hp h
    rcases Nat.lt_or_ge p l.length with hlt | hge
    · have hcr := List.drop_eq_getElem_cons hlt
      rw [hcr] at h
      have hsp := stp_pos df l[p] (l.drop (p + 1))
      rw [← hcr, List.length_drop] at hsp
      cases hq : stp df l[p] (l.drop (p + 1)) with
      | skip m =>
        rw [hq] at hsp
        have hs2 : 1 ≤ m ∧ m ≤ l.length - p := hsp
        rw [lexG_skip hq, ← hcr, List.drop_drop] at h
        exact okT_mono (ih (p + m) df n ts (by omega) (by omega) h) (by omega)
      | err e => rw [lexG_err hq] at h; cases h
      | tk k x m =>
        rw [hq] at hsp
        have hs2 : 1 ≤ m ∧ m ≤ l.length - p := hsp
        by_cases hn : n = 16384
        · rw [lexG_full hq hn] at h; cases h
        · rw [lexG_tk hq hn, ← hcr, List.drop_drop] at h
          cases hg : lexG (p + m) (l.drop (p + m)) (dfN df k x) (n + 1) with
          | bad q e => rw [hg] at h; cases h
          | toks us =>
            rw [hg] at h
            injection h with h
            subst h
            obtain ⟨hk, ht⟩ := stp_tk (p := p) hq
            rw [← hcr] at ht
            have hl : (txt ⟨k, x, p⟩).length = m := by rw [ht, List.length_take, List.length_drop]; omega
            refine ⟨Nat.le_refl _, by rw [hl]; omega, by rw [hl]; show p + m ≤ _; omega, by rw [hl]; exact ht.symm, hk, ?_⟩
            rw [hl]
            exact ih (p + m) _ _ us (by omega) (by omega) hg
    · rw [List.drop_of_length_le hge, lexG_nil] at h
      injection h with h; subst h; trivial
theorem lex_bad (l : List UInt8) : ∀ (f p : Nat) (df : Bool) (n : Nat) (q : Nat) (e : Int), l.length - p ≤ f → p ≤ l.length → lexG p (l.drop p) df n = .bad q e → q < l.length ∧ e ≠ 0 := by
  intro f
  induction f with
  | zero =>
    intro p df n q e hf hp h
    rw [List.drop_of_length_le (by omega), lexG_nil] at h
    cases h
  | succ f ih =>
    intro p df n q e hf hp h
    rcases Nat.lt_or_ge p l.length with hlt | hge
    · have hcr := List.drop_eq_getElem_cons hlt
      rw [hcr] at h
      have hsp := stp_pos df l[p] (l.drop (p + 1))
      rw [← hcr, List.length_drop] at hsp
      cases hq : stp df l[p] (l.drop (p + 1)) with
      | skip m =>
        rw [hq] at hsp
        have hs2 : 1 ≤ m ∧ m ≤ l.length - p := hsp
        rw [lexG_skip hq, ← hcr, List.drop_drop] at h
        exact ih (p + m) df n q e (by omega) (by omega) h
      | err c =>
        rw [lexG_err hq] at h
        injection h with h1 h2
        subst h1 h2
        exact ⟨hlt, stp_err0 hq⟩
      | tk k x m =>
        rw [hq] at hsp
        have hs2 : 1 ≤ m ∧ m ≤ l.length - p := hsp
        by_cases hn : n = 16384
        · rw [lexG_full hq hn] at h; injection h with h1 h2; subst h1 h2; exact ⟨hlt, by decide⟩
        · rw [lexG_tk hq hn, ← hcr, List.drop_drop] at h
          cases hg : lexG (p + m) (l.drop (p + m)) (dfN df k x) (n + 1) with
          | bad q2 e2 =>
            rw [hg] at h
            injection h with h1 h2
            subst h1 h2
            exact ih (p + m) _ _ _ _ (by omega) (by omega) hg
          | toks us => rw [hg] at h; cases h
    · rw [List.drop_of_length_le hge, lexG_nil] at h
      cases h
theorem places_bad {l : List UInt8} {p : Nat} {e : Int} (h : lexL l = .bad p e) : (p < l.length ∨ p = 0) ∧ e ≠ 0 := by
  unfold lexL at h
  split at h
  · injection h with h1 h2; subst h1 h2; exact ⟨Or.inr rfl, by decide⟩
  · cases hg : lexG 0 l false 0 with
    | toks t => rw [hg] at h; cases h
    | bad q c =>
      rw [hg] at h
      injection h with h1 h2
      subst h1 h2
      obtain ⟨a, b⟩ := lex_bad l l.length 0 false 0 q c (by omega) (by omega) (by rw [List.drop_zero]; exact hg)
      exact ⟨Or.inl a, b⟩
theorem places_toks {l : List UInt8} {t : List Tok} (h : lexL l = .toks t) : ∃ ts, t = ts ++ [⟨6, [], l.length⟩] ∧ okT l 0 ts := by
  unfold lexL at h
  split at h
  · cases h
  · cases hg : lexG 0 l false 0 with
    | bad q c => rw [hg] at h; cases h
    | toks us =>
      rw [hg] at h
      injection h with h
      exact ⟨us, h.symm, lex_ok l l.length 0 false 0 us (by omega) (by omega) (by rw [List.drop_zero]; exact hg)⟩
end Lg
