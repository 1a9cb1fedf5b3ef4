/- Plain facts, more: shifts by place. -/
import Derived.Test.YtdacoincdkighaaMath5
namespace Lg
def shB (a : List UInt8) (by' : Int) (i : Nat) : UInt8 := if 0 ≤ (i : Int) + by' ∧ (i : Int) + by' < (a.length : Int) then a.getD ((i : Int) + by').toNat 0 else 48
def shT (a : List UInt8) (by' : Int) : List UInt8 := tab a.length (shB a by')
theorem getD_tab (w : Nat) (f : Nat → UInt8) (i : Nat) (h : i < w) : (tab w f).getD i 0 = f i := by simp [tab, h]
theorem list_eq {a b : List UInt8} (h : a.length = b.length) (h2 : ∀ i, i < a.length → a.getD i 0 = b.getD i 0) : a = b := by
  apply List.ext_getElem h
  intro i h1 h3
  have := h2 i h1
  rwa [List.getD_eq_getElem?_getD, List.getD_eq_getElem?_getD, List.getElem?_eq_getElem h1, List.getElem?_eq_getElem h3] at this
theorem getD_append_l (a b : List UInt8) (i : Nat) (h : i < a.length) : (a ++ b).getD i 0 = a.getD i 0 := by
  simp [List.getElem?_append_left h]
theorem getD_append_r (a b : List UInt8) (i : Nat) (h : a.length ≤ i) : (a ++ b).getD i 0 = b.getD (i - a.length) 0 := by
  simp [List.getElem?_append_right h]
theorem getD_drop (a : List UInt8) (n i : Nat) : (a.drop n).getD i 0 = a.getD (n + i) 0 := by simp [List.getElem?_drop]
theorem getD_take (a : List UInt8) (n i : Nat) (h : i < n) : (a.take n).getD i 0 = a.getD i 0 := by simp [h]
theorem shT_up (a : List UInt8) (n : Nat) (h : n ≤ a.length) : shT a n = shlL a n := by
  apply list_eq
  · unfold shT shlL; rw [len_tab, List.length_append, List.length_drop, len_rep]; omega
  · intro i hi
    unfold shT at hi ⊢; rw [len_tab] at hi
    rw [getD_tab _ _ _ hi]
    unfold shB shlL
    by_cases c : i + n < a.length
    · rw [if_pos (by omega), getD_append_l _ _ _ (by rw [List.length_drop]; omega), getD_drop, show ((i : Int) + (n : Int)).toNat = n + i by omega]
    · rw [if_neg (by omega), getD_append_r _ _ _ (by rw [List.length_drop]; omega), rep_getD _ _ _ (by rw [List.length_drop]; omega)]
theorem shT_down (a : List UInt8) (n : Nat) (h : n ≤ a.length) : shT a (-(n : Int)) = shrL a n := by
  apply list_eq
  · unfold shT shrL; rw [len_tab, List.length_append, List.length_take, len_rep]; omega
  · intro i hi
    unfold shT at hi ⊢; rw [len_tab] at hi
    rw [getD_tab _ _ _ hi]
    unfold shB shrL
    by_cases c : i < n
    · rw [if_neg (by omega), getD_append_l _ _ _ (by rw [len_rep]; omega), rep_getD _ _ _ c]
    · rw [if_pos (by omega), getD_append_r _ _ _ (by rw [len_rep]; omega), getD_take _ _ _ (by rw [len_rep]; omega), len_rep, show ((i : Int) + -(n : Int)).toNat = i - n by omega]
def rnum (l : List UInt8) : Int := if num l ≤ 2147483647 then (num l : Int) else -1
/-- by how much the reference shifts -/
theorem upTo_rnum (b : List UInt8) (m : Nat) (hm : m ≤ 256) : (if rnum b < 0 ∨ (m : Int) < rnum b then (m : Int) else rnum b) = (upToN b m : Int) := by
  unfold rnum upToN
  by_cases h : num b ≤ 2147483647
  · rw [if_pos h]; by_cases h2 : m ≤ num b
    · rw [if_pos h2]; by_cases h3 : (m : Int) < num b
      · rw [if_pos (.inr h3)]
      · rw [if_neg (by omega)]; omega
    · rw [if_neg h2, if_neg (by omega)]
  · rw [if_neg h, if_pos (.inl (by decide)), if_pos (by omega)]
end Lg
