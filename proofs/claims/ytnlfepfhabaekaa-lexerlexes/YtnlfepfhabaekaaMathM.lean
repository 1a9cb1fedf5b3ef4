/- Layer 2, plain: what stands at a place of a source, and its tokens. No program in sight. -/
import Derived.Test.YtnlfepfhabaekaaMathL
import Derived.Lib.Bytealg
import Derived.Lib.Index
import Derived.Lib.Strings
namespace Lg
open Go
def signs : List UInt8 := [40, 41, 91, 93, 123, 125, 44, 59, 58, 46, 35, 64, 63, 43, 45, 126, 33, 38, 124, 94, 61, 60, 62, 42]
def sgnB (c : UInt8) : Bool := signs.contains c
def kinds (c : UInt8) : Int :=
  if letB c then 7 else if digB c then 6 else if c = 39 then 4 else if c = 10 then 24 else if c = 9 ∨ c = 13 ∨ c = 32 then 8 else if c = 47 then 32 else if c = 96 then 64 else if sgnB c then 128 else 0
def numB (c : UInt8) : Bool := worB c || c == 39
def twos : List (List UInt8) := [[38, 38], [124, 124], [61, 61], [33, 61], [60, 61], [62, 61], [60, 60], [62, 62]]
def sgW (l : List UInt8) : Nat := if twos.contains (l.take 2) then 2 else 1
/-- how many bytes the comment has; 0: there is none that ends -/
def comW (l : List UInt8) : Nat :=
  if Lib.hasPrefix l [47, 47] then (if 0 ≤ Lib.indexByte l 10 then (Lib.indexByte l 10).toNat else l.length)
  else if Lib.hasPrefix l [47, 42] then (if 0 ≤ Lib.index (l.drop 2) [42, 47] then 2 + (Lib.index (l.drop 2) [42, 47]).toNat + 2 else 0) else 0
def wordL (l : List UInt8) : List UInt8 := l.takeWhile worB
def numbL (l : List UInt8) : List UInt8 := l.takeWhile numB
structure Tok where
  k : Int
  x : List UInt8
  p : Nat
/-- what stands at a place: so many bytes to be passed by; a token of so many bytes; why it may not be -/
inductive Stp where
  | skip (n : Nat)
  | tk (k : Int) (x : List UInt8) (n : Nat)
  | err (e : Int)
def defW : List UInt8 := [100, 101, 102, 105, 110, 101]
def tickP (r : List UInt8) : Stp :=
  if r = [] ∨ letB (hd0 r) = false then .err 20 else if 64 < (wordL r).length then .err 4 else .tk 4 (wordL r) (1 + (wordL r).length)
def stp (df : Bool) (c : UInt8) (r : List UInt8) : Stp :=
  if c = 10 ∧ df = true then .tk 5 [] 1
  else if kinds c = 24 ∨ kinds c = 8 then .skip 1
  else if c = 47 then (if comW (c :: r) = 0 then .err 20 else .skip (comW (c :: r)))
  else if c = 96 then tickP r
  else if letB c then (if 64 < (wordL (c :: r)).length then .err 4 else .tk 1 (wordL (c :: r)) (wordL (c :: r)).length)
  else if digB c then (match numV (numbL (c :: r)) with | none => .err 21 | some _ => .tk 2 (numbL (c :: r)) (numbL (c :: r)).length)
  else if sgnB c then .tk 3 ((c :: r).take (sgW (c :: r))) (sgW (c :: r))
  else .err 20
/-- whether a define stands ahead in the line, behind a token -/
def dfN (df : Bool) (k : Int) (x : List UInt8) : Bool := if k = 5 then false else df || (k == 4 && x == defW)
inductive Res where
  | toks (l : List Tok)
  | bad (p : Nat) (e : Int)
def Res.cons (t : Tok) : Res → Res
  | .toks l => .toks (t :: l)
  | r => r
/-- the tokens from a place on, so many being there -/
def lexG (p : Nat) (l : List UInt8) (df : Bool) (n : Nat) : Res :=
  match l with
  | [] => .toks []
  | c :: r => match stp df c r with
    | .skip m => lexG (p + m) (r.drop (m - 1)) df n
    | .err e => .bad p e
    | .tk k x m => if n = 16384 then .bad p 2 else Res.cons ⟨k, x, p⟩ (lexG (p + m) (r.drop (m - 1)) (dfN df k x) (n + 1))
  termination_by l.length
  decreasing_by
    all_goals simp
    all_goals omega
def Res.app (a : List Tok) : Res → Res
  | .toks l => .toks (a ++ l)
  | r => r
/-- all tokens, the end last; or why not -/
def lexL (l : List UInt8) : Res := if 65536 < l.length then .bad 0 4 else match lexG 0 l false 0 with
  | .toks t => .toks (t ++ [⟨6, [], l.length⟩])
  | r => r
theorem kcases (c : UInt8) : (letB c = true ∧ kinds c = 7) ∨ (letB c = false ∧ digB c = true ∧ kinds c = 6) ∨ (c = 39 ∧ kinds c = 4) ∨ (c = 10 ∧ kinds c = 24) ∨ ((c = 9 ∨ c = 13 ∨ c = 32) ∧ kinds c = 8) ∨ (c = 47 ∧ kinds c = 32) ∨ (c = 96 ∧ kinds c = 64) ∨
    (letB c = false ∧ digB c = false ∧ sgnB c = true ∧ kinds c = 128) ∨ (letB c = false ∧ digB c = false ∧ sgnB c = false ∧ c ≠ 39 ∧ c ≠ 10 ∧ c ≠ 9 ∧ c ≠ 13 ∧ c ≠ 32 ∧ c ≠ 47 ∧ c ≠ 96 ∧ kinds c = 0) := by
  unfold kinds
  by_cases h1 : letB c = true
  · left; exact ⟨h1, by rw [if_pos h1]⟩
  · have h1' : letB c = false := by simpa using h1
    rw [if_neg h1]
    by_cases h2 : digB c = true
    · right; left; exact ⟨h1', h2, by rw [if_pos h2]⟩
    · have h2' : digB c = false := by simpa using h2
      rw [if_neg h2]
      by_cases h3 : c = 39
      · right; right; left; exact ⟨h3, by rw [if_pos h3]⟩
      · rw [if_neg h3]
        by_cases h4 : c = 10
        · right; right; right; left; exact ⟨h4, by rw [if_pos h4]⟩
        · rw [if_neg h4]
          by_cases h5 : c = 9 ∨ c = 13 ∨ c = 32
          · right; right; right; right; left; exact ⟨h5, by rw [if_pos h5]⟩
          · rw [if_neg h5]
            by_cases h6 : c = 47
            · right; right; right; right; right; left; exact ⟨h6, by rw [if_pos h6]⟩
            · rw [if_neg h6]
              by_cases h7 : c = 96
              · right; right; right; right; right; right; left; exact ⟨h7, by rw [if_pos h7]⟩
              · rw [if_neg h7]
                by_cases h8 : sgnB c = true
                · right; right; right; right; right; right; right; left; exact ⟨h1', h2', h8, by rw [if_pos h8]⟩
                · have h8' : sgnB c = false := by simpa using h8
                  right; right; right; right; right; right; right; right
                  exact ⟨h1', h2', h8', h3, h4, fun e => h5 (Or.inl e), fun e => h5 (Or.inr (Or.inl e)), fun e => h5 (Or.inr (Or.inr e)), h6, h7, by rw [if_neg h8]⟩
theorem worB_kinds (c : UInt8) : (worB c = true ∧ (kinds c = 7 ∨ kinds c = 6)) ∨ (worB c = false ∧ (kinds c = 4 ∨ kinds c = 24 ∨ kinds c = 8 ∨ kinds c = 32 ∨ kinds c = 64 ∨ kinds c = 128 ∨ kinds c = 0)) := by
  rcases kcases c with h | h | h | h | h | h | h | h | h
  · left; exact ⟨by unfold worB; rw [h.1]; rfl, Or.inl h.2⟩
  · left; exact ⟨by unfold worB; rw [h.1, h.2.1]; rfl, Or.inr h.2.2⟩
  · right; obtain ⟨rfl, h⟩ := h; exact ⟨by decide, by simp [h]⟩
  · right; obtain ⟨rfl, h⟩ := h; exact ⟨by decide, by simp [h]⟩
  · right; obtain ⟨h0, h⟩ := h; exact ⟨by rcases h0 with rfl | rfl | rfl <;> decide, by simp [h]⟩
  · right; obtain ⟨rfl, h⟩ := h; exact ⟨by decide, by simp [h]⟩
  · right; obtain ⟨rfl, h⟩ := h; exact ⟨by decide, by simp [h]⟩
  · right; exact ⟨by unfold worB; rw [h.1, h.2.1]; rfl, by simp [h.2.2.2]⟩
  · right; exact ⟨by unfold worB; rw [h.1, h.2.1]; rfl, by simp [h.2.2.2.2.2.2.2.2.2.2]⟩
theorem numB_kinds (c : UInt8) : (numB c = true ∧ (kinds c = 7 ∨ kinds c = 6 ∨ kinds c = 4)) ∨ (numB c = false ∧ (kinds c = 24 ∨ kinds c = 8 ∨ kinds c = 32 ∨ kinds c = 64 ∨ kinds c = 128 ∨ kinds c = 0)) := by
  rcases kcases c with h | h | h | h | h | h | h | h | h
  · left; exact ⟨by unfold numB worB; rw [h.1]; rfl, Or.inl h.2⟩
  · left; exact ⟨by unfold numB worB; rw [h.1, h.2.1]; rfl, Or.inr (Or.inl h.2.2)⟩
  · left; obtain ⟨rfl, h⟩ := h; exact ⟨by decide, by simp [h]⟩
  · right; obtain ⟨rfl, h⟩ := h; exact ⟨by decide, by simp [h]⟩
  · right; obtain ⟨h0, h⟩ := h; exact ⟨by rcases h0 with rfl | rfl | rfl <;> decide, by simp [h]⟩
  · right; obtain ⟨rfl, h⟩ := h; exact ⟨by decide, by simp [h]⟩
  · right; obtain ⟨rfl, h⟩ := h; exact ⟨by decide, by simp [h]⟩
  · right
    have : c ≠ 39 := by rintro rfl; exact absurd h.2.2.1 (by decide)
    exact ⟨by unfold numB worB; rw [h.1, h.2.1]; simpa using this, by simp [h.2.2.2]⟩
  · right; exact ⟨by unfold numB worB; rw [h.1, h.2.1]; simpa using h.2.2.2.1, by simp [h.2.2.2.2.2.2.2.2.2.2]⟩
theorem tw_len (p : UInt8 → Bool) (l : List UInt8) : (l.takeWhile p).length ≤ l.length := (List.takeWhile_sublist p).length_le
end Lg
