/- Layer 4, plain: expressions of names and operators. -/
import Derived.Test.YtpnhefjiobnelaaNaA
namespace Lg
open Go
set_option linter.unusedVariables false
set_option linter.unusedSimpArgs false
def pQ (l : List Tok) : Nat → Md → Nat → Option (X × Nat)
  | 0, _, _ => none
  | f + 1, .ex d, k => match pQ l f (.bi d 0) k with
    | some (x, k1) => if fx l k1 = [63] then none else some (x, k1)
    | none => none
  | f + 1, .bi d s, k => match pQ l f (.un d) k with
    | some (x, k1) => pQ l f (.bl d s x) k1
    | none => none
  | f + 1, .bl d s x, k => if (biL (fx l k)).1 = 0 ∨ (biL (fx l k)).2 < s then some (x, k) else (match pQ l f (.bi d ((biL (fx l k)).2 + 1)) (k + 1) with
    | some (y, k1) => pQ l f (.bl d s ⟨(biL (fx l k)).1, [], [], false, x.f (y.f .nil), (tk l k).p⟩) k1
    | none => none)
  | f + 1, .un d, k => if unL (fx l k) = 0 then pQ l f (.pr d) k else if 32 < d then none else (match pQ l f (.un (d + 1)) (k + 1) with
    | some (y, k1) => some (⟨unL (fx l k), [], [], false, y.f .nil, (tk l k).p⟩, k1)
    | none => none)
  | f + 1, .pr d, k => if nmB (tk l k) = true ∧ d ≤ 32 ∧ fx l (k + 1) ≠ [91] then some (⟨2, (tk l k).x, [], false, .nil, (tk l k).p⟩, k + 1) else none
  | _ + 1, .ct _ _ _, _ => none
theorem lv_qF : ∀ p, p < 15 → ∀ q, q < 15 → pQ (lvK p q ++ [⟨6, [], (lvT p q).length⟩]) 20 (.ex 1) 8 = some (lvX p q, 13) := by decide +kernel
theorem pQ_ex {l : List Tok} {f d k k' : Nat} {x : X} (h : pQ l (f + 1) (.ex d) k = some (x, k')) : pQ l f (.bi d 0) k = some (x, k') ∧ fx l k' ≠ [63] := by
  rw [pQ] at h
  cases h1 : pQ l f (.bi d 0) k with
  | none => rw [h1] at h; cases h
  | some r =>
    obtain ⟨y, k1⟩ := r
    rw [h1] at h
    simp only at h
    split at h
    · cases h
    · rename_i h2; injection h with h; injection h with e1 e2; subst e1 e2; exact ⟨rfl, h2⟩
theorem pQ_bi {l : List Tok} {f d s k k' : Nat} {x : X} (h : pQ l (f + 1) (.bi d s) k = some (x, k')) : ∃ y k1, pQ l f (.un d) k = some (y, k1) ∧ pQ l f (.bl d s y) k1 = some (x, k') := by
  rw [pQ] at h
  cases h1 : pQ l f (.un d) k with
  | none => rw [h1] at h; cases h
  | some r => obtain ⟨y, k1⟩ := r; rw [h1] at h; exact ⟨y, k1, rfl, h⟩
theorem pQ_bl {l : List Tok} {f d s k k' : Nat} {x z : X} (h : pQ l (f + 1) (.bl d s x) k = some (z, k')) :
    (((biL (fx l k)).1 = 0 ∨ (biL (fx l k)).2 < s) ∧ z = x ∧ k' = k) ∨ ((biL (fx l k)).1 ≠ 0 ∧ s ≤ (biL (fx l k)).2 ∧ ∃ y k1, pQ l f (.bi d ((biL (fx l k)).2 + 1)) (k + 1) = some (y, k1) ∧ pQ l f (.bl d s ⟨(biL (fx l k)).1, [], [], false, x.f (y.f .nil), (tk l k).p⟩) k1 = some (z, k')) := by
  rw [pQ] at h
  split at h
  · rename_i h1; injection h with h; injection h with e1 e2; exact Or.inl ⟨h1, e1.symm, e2.symm⟩
  · rename_i h1
    refine Or.inr ⟨fun e => h1 (Or.inl e), Nat.le_of_not_lt fun e => h1 (Or.inr e), ?_⟩
    cases h2 : pQ l f (.bi d ((biL (fx l k)).2 + 1)) (k + 1) with
    | none => rw [h2] at h; cases h
    | some r => obtain ⟨y, k1⟩ := r; rw [h2] at h; exact ⟨y, k1, rfl, h⟩
theorem pQ_un {l : List Tok} {f d k k' : Nat} {x : X} (h : pQ l (f + 1) (.un d) k = some (x, k')) :
    (unL (fx l k) = 0 ∧ pQ l f (.pr d) k = some (x, k')) ∨ (unL (fx l k) ≠ 0 ∧ d ≤ 32 ∧ ∃ y, pQ l f (.un (d + 1)) (k + 1) = some (y, k') ∧ x = ⟨unL (fx l k), [], [], false, y.f .nil, (tk l k).p⟩) := by
  rw [pQ] at h
  split at h
  · rename_i h1; exact Or.inl ⟨h1, h⟩
  · rename_i h1
    split at h
    · cases h
    · rename_i h2
      refine Or.inr ⟨h1, by omega, ?_⟩
      cases h3 : pQ l f (.un (d + 1)) (k + 1) with
      | none => rw [h3] at h; cases h
      | some r =>
        obtain ⟨y, k1⟩ := r
        rw [h3] at h
        injection h with h; injection h with e1 e2; subst e2; exact ⟨y, rfl, e1.symm⟩
theorem pQ_pr {l : List Tok} {f d k k' : Nat} {x : X} (h : pQ l (f + 1) (.pr d) k = some (x, k')) : nmB (tk l k) = true ∧ d ≤ 32 ∧ fx l (k + 1) ≠ [91] ∧ x = ⟨2, (tk l k).x, [], false, .nil, (tk l k).p⟩ ∧ k' = k + 1 := by
  rw [pQ] at h
  split at h
  · rename_i h1; injection h with h; injection h with e1 e2; exact ⟨h1.1, h1.2.1, h1.2.2, e1.symm, e2.symm⟩
  · cases h
theorem biL_le (x : List UInt8) : (biL x).2 ≤ 9 ∧ 0 ≤ (biL x).1 ∧ (biL x).1 ≤ 27 := by
  unfold biL
  by_cases h0 : x = [124, 124]
  · rw [if_pos h0]; decide
  rw [if_neg h0]
  by_cases h1 : x = [38, 38]
  · rw [if_pos h1]; decide
  rw [if_neg h1]
  by_cases h2 : x = [124]
  · rw [if_pos h2]; decide
  rw [if_neg h2]
  by_cases h3 : x = [94]
  · rw [if_pos h3]; decide
  rw [if_neg h3]
  by_cases h4 : x = [38]
  · rw [if_pos h4]; decide
  rw [if_neg h4]
  by_cases h5 : x = [61, 61]
  · rw [if_pos h5]; decide
  rw [if_neg h5]
  by_cases h6 : x = [33, 61]
  · rw [if_pos h6]; decide
  rw [if_neg h6]
  by_cases h7 : x = [60]
  · rw [if_pos h7]; decide
  rw [if_neg h7]
  by_cases h8 : x = [60, 61]
  · rw [if_pos h8]; decide
  rw [if_neg h8]
  by_cases h9 : x = [62]
  · rw [if_pos h9]; decide
  rw [if_neg h9]
  by_cases h10 : x = [62, 61]
  · rw [if_pos h10]; decide
  rw [if_neg h10]
  by_cases h11 : x = [60, 60]
  · rw [if_pos h11]; decide
  rw [if_neg h11]
  by_cases h12 : x = [62, 62]
  · rw [if_pos h12]; decide
  rw [if_neg h12]
  by_cases h13 : x = [43]
  · rw [if_pos h13]; decide
  rw [if_neg h13]
  by_cases h14 : x = [45]
  · rw [if_pos h14]; decide
  rw [if_neg h14]
  decide
theorem biL_ne {x : List UInt8} (h : (biL x).1 ≠ 0) : x ≠ [] := by rintro rfl; exact h (by decide)
theorem unL_ne {x : List UInt8} (h : unL x ≠ 0) : x ≠ [] := by rintro rfl; exact h (by decide)
theorem unL_le (x : List UInt8) : 0 ≤ unL x ∧ unL x ≤ 12 := by
  unfold unL
  by_cases h0 : x = [126]
  · rw [if_pos h0]; decide
  rw [if_neg h0]
  by_cases h1 : x = [33]
  · rw [if_pos h1]; decide
  rw [if_neg h1]
  by_cases h2 : x = [45]
  · rw [if_pos h2]; decide
  rw [if_neg h2]
  by_cases h3 : x = [38]
  · rw [if_pos h3]; decide
  rw [if_neg h3]
  by_cases h4 : x = [124]
  · rw [if_pos h4]; decide
  rw [if_neg h4]
  by_cases h5 : x = [94]
  · rw [if_pos h5]; decide
  rw [if_neg h5]
  decide
end Lg
