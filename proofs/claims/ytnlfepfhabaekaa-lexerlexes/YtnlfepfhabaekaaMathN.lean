/- Layer 2, plain: how far steps go. -/
import Derived.Test.YtnlfepfhabaekaaMathM
namespace Lg
open Go
theorem ixb_le (l : List UInt8) (c : UInt8) : Lib.indexByte l c < l.length ∨ Lib.indexByte l c = -1 := by
  induction l with
  | nil => right; rfl
  | cons b l ih =>
    simp only [Lib.indexByte]
    split
    · left; simp
    · split
      · right; rfl
      · rename_i h; simp at h; simp; omega
theorem idx_le (l : List UInt8) (a b : UInt8) : Lib.index l [a, b] + 2 ≤ l.length ∨ Lib.index l [a, b] = -1 := by
  induction l with
  | nil => right; rfl
  | cons c l ih =>
    simp only [Lib.index]
    split
    · rename_i h
      left
      match l, h with
      | [], h => simp [List.isPrefixOf] at h
      | d :: l, h => simp; omega
    · split
      · right; rfl
      · rename_i h; simp at h; simp; omega
theorem ixb_pos (l : List UInt8) (c : UInt8) (h : hd0 l ≠ c) (h2 : 0 ≤ Lib.indexByte l c) : 1 ≤ Lib.indexByte l c := by
  cases l with
  | nil => simp [Lib.indexByte] at h2
  | cons b l =>
    have h1 : (b == c) = false := by rw [beq_eq_false_iff_ne]; exact h
    have hge := Lib.indexByte_ge l c
    simp only [Lib.indexByte, h1] at h2 ⊢
    by_cases h3 : Lib.indexByte l c = -1
    · rw [h3] at h2; simp at h2
    · have h4 : (Lib.indexByte l c == -1) = false := by simpa using h3
      rw [h4]; simp; omega
theorem comW_le (l : List UInt8) : comW l ≤ l.length := by
  unfold comW
  split
  · split
    · have := ixb_le l 10; omega
    · omega
  · split
    · split
      · have := idx_le (l.drop 2) 42 47; rw [List.length_drop] at this; omega
      · omega
    · omega
theorem word_pos {c : UInt8} {r : List UInt8} (h : worB c = true) : 1 ≤ (wordL (c :: r)).length := by unfold wordL; rw [List.takeWhile_cons, h]; simp
theorem numb_pos {c : UInt8} {r : List UInt8} (h : numB c = true) : 1 ≤ (numbL (c :: r)).length := by unfold numbL; rw [List.takeWhile_cons, h]; simp
theorem word_le (l : List UInt8) : (wordL l).length ≤ l.length := tw_len _ _
theorem numb_le (l : List UInt8) : (numbL l).length ≤ l.length := tw_len _ _
theorem sgW_le {c : UInt8} {r : List UInt8} : 1 ≤ sgW (c :: r) ∧ sgW (c :: r) ≤ (c :: r).length := by
  unfold sgW
  split
  · rename_i h
    match r, h with
    | [], h => simp [twos] at h
    | d :: r, h => simp
  · simp
def stpN : Stp → Nat
  | .skip n => n
  | .tk _ _ n => n
  | .err _ => 1
theorem stp_pos (df : Bool) (c : UInt8) (r : List UInt8) : 1 ≤ stpN (stp df c r) ∧ stpN (stp df c r) ≤ (c :: r).length := by
  unfold stp
  split
  · simp [stpN]
  split
  · simp [stpN]
  split
  · split
    · simp [stpN]
    · rename_i h; have := comW_le (c :: r); simp only [stpN]; omega
  split
  · unfold tickP
    split
    · simp [stpN]
    split
    · simp [stpN]
    · have := word_le r; simp [stpN]; omega
  split
  · rename_i hl
    split
    · simp [stpN]
    · exact ⟨word_pos (by unfold worB; rw [hl]; rfl), word_le _⟩
  split
  · rename_i hd
    split
    · simp [stpN]
    · exact ⟨numb_pos (by unfold numB worB; rw [hd]; simp), numb_le _⟩
  split
  · exact sgW_le
  · simp [stpN]
theorem drop_step (df : Bool) (c : UInt8) (r : List UInt8) : r.drop (stpN (stp df c r) - 1) = (c :: r).drop (stpN (stp df c r)) := by
  have := (stp_pos df c r).1
  obtain ⟨m, hm⟩ : ∃ m, stpN (stp df c r) = m + 1 := ⟨stpN (stp df c r) - 1, by omega⟩
  rw [hm]; rfl
theorem app_cons (a : List Tok) (t : Tok) (x : Res) : Res.app a (Res.cons t x) = Res.app (a ++ [t]) x := by
  cases x with
  | toks l => simp [Res.app, Res.cons]
  | bad p e => rfl
theorem app_nil (x : Res) : Res.app [] x = x := by cases x <;> rfl
theorem lexG_nil (p : Nat) (df : Bool) (n : Nat) : lexG p [] df n = .toks [] := by rw [lexG]
theorem lexG_skip {p : Nat} {c : UInt8} {r : List UInt8} {df : Bool} {n m : Nat} (h : stp df c r = .skip m) : lexG p (c :: r) df n = lexG (p + m) ((c :: r).drop m) df n := by
  rw [lexG]
  have hd := drop_step df c r
  simp only [h, stpN] at hd ⊢
  rw [hd]
theorem lexG_err {p : Nat} {c : UInt8} {r : List UInt8} {df : Bool} {n : Nat} {e : Int} (h : stp df c r = .err e) : lexG p (c :: r) df n = .bad p e := by
  rw [lexG]; simp only [h]
theorem lexG_full {p : Nat} {c : UInt8} {r : List UInt8} {df : Bool} {n m : Nat} {k : Int} {x : List UInt8} (h : stp df c r = .tk k x m) (hn : n = 16384) : lexG p (c :: r) df n = .bad p 2 := by
  rw [lexG]; simp only [h]; rw [if_pos hn]
theorem lexG_tk {p : Nat} {c : UInt8} {r : List UInt8} {df : Bool} {n m : Nat} {k : Int} {x : List UInt8} (h : stp df c r = .tk k x m) (hn : n ≠ 16384) : lexG p (c :: r) df n = Res.cons ⟨k, x, p⟩ (lexG (p + m) ((c :: r).drop m) (dfN df k x) (n + 1)) := by
  rw [lexG]
  have hd := drop_step df c r
  simp only [h, stpN] at hd ⊢
  rw [if_neg hn, hd]
end Lg
