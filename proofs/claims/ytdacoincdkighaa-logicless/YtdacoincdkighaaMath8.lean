/- Plain facts, more: what is known, and what operators make of vectors. -/
import Derived.Test.YtdacoincdkighaaMath7
namespace Lg
theorem fit_self (l : List UInt8) (n : Nat) (h : n = l.length) : fit l n = l := by subst h; unfold fit; rw [if_pos (Nat.le_refl _), Nat.sub_self, List.drop_zero]
theorem tab_bits {w : Nat} {f : Nat → UInt8} (h1 : 1 ≤ w) (h2 : w ≤ 256) (h : ∀ i, i < w → bitB (f i) = true) : vec (tab w f) = true :=
  vec_mk (by rw [len_tab]; exact h1) (by rw [len_tab]; exact h2) (tab_all h)
theorem bnot_bit (c : UInt8) : bitB (bnot c) = true := by unfold bnot; split <;> (try split) <;> rfl
theorem band_bit (a b : UInt8) : bitB (band a b) = true := by unfold band; split <;> (try split) <;> rfl
theorem bor_bit (a b : UInt8) : bitB (bor a b) = true := by unfold bor; split <;> (try split) <;> rfl
theorem bagr_bit (a b : UInt8) : bitB (bagr a b) = true := by unfold bagr; split <;> (try split) <;> rfl
theorem vec_turn {a : List UInt8} (h : vec a = true) : vec (turnL a) = true := tab_bits (vec_len h).1 (vec_len h).2 (fun _ _ => bnot_bit _)
theorem vec_bitwise {a : List UInt8} (f : UInt8 → UInt8 → UInt8) (b : List UInt8) (h : vec a = true) (hf : ∀ x y, bitB (f x y) = true) : vec (bitwise f a b) = true := tab_bits (vec_len h).1 (vec_len h).2 (fun _ _ => hf _ _)
theorem len_bitwise (f : UInt8 → UInt8 → UInt8) (a b : List UInt8) : (bitwise f a b).length = a.length := len_tab _ _
theorem fit_all (l : List UInt8) (n : Nat) (h : l.all bitB = true) : (fit l n).all bitB = true := by
  rw [List.all_eq_true] at h ⊢
  intro x hx
  unfold fit at hx
  split at hx
  · exact h x (List.mem_of_mem_drop hx)
  · rcases List.mem_append.1 hx with hx | hx
    · rw [List.eq_of_mem_replicate hx]; rfl
    · exact h x hx
theorem vec_fit {l : List UInt8} (n : Nat) (h : vec l = true) (h1 : 1 ≤ n) (h2 : n ≤ 256) : vec (fit l n) = true :=
  vec_mk (by rw [len_fit]; exact h1) (by rw [len_fit]; exact h2) (fit_all l n (vec_all h))
theorem bin_same (op : Int) (a b : List UInt8) (h : a.length = b.length) (h2 : op ≠ 15 ∧ op ≠ 16 ∧ op ≠ 26 ∧ op ≠ 27) : binL op a b = oneW op a b := by
  unfold binL; rw [if_neg (by omega), if_neg h2.2.2.1, if_neg h2.2.2.2, fit_self a _ (by omega), fit_self b _ (by omega)]
theorem bin_and (a b : List UInt8) (h : a.length = b.length) : binL 23 a b = bitwise band a b := by rw [bin_same 23 a b h (by decide)]; unfold oneW; simp
theorem bin_or (a b : List UInt8) (h : a.length = b.length) : binL 25 a b = bitwise bor a b := by rw [bin_same 25 a b h (by decide)]; unfold oneW; simp
theorem not_and (x y : UInt8) : bnot (band x y) = bor (bnot x) (bnot y) := by
  unfold bor band bnot
  by_cases h1 : x = 48 <;> by_cases h2 : x = 49 <;> by_cases h3 : y = 48 <;> by_cases h4 : y = 49 <;> simp_all
theorem turn_and (a b : List UInt8) (h : a.length = b.length) : turnL (bitwise band a b) = bitwise bor (turnL a) (turnL b) := by
  unfold turnL
  unfold bitwise
  rw [len_tab, len_tab]
  refine tab_congr fun i hi => ?_
  rw [getD_tab _ _ _ hi]
  unfold bw
  rw [getD_tab _ _ _ hi, getD_tab _ _ _ (by omega), not_and]
/-- each bit is what it is in another one, or x -/
def Kn (a b : List UInt8) : Prop := a.length = b.length ∧ ∀ i, i < a.length → a.getD i 0 = 120 ∨ a.getD i 0 = b.getD i 0
theorem not_not (x : UInt8) (h : bitB x = true) : bnot (bnot x) = 120 ∨ bnot (bnot x) = x := by
  rcases bit_cases h with rfl | rfl | rfl | rfl <;> first | exact .inr rfl | exact .inl rfl
theorem all_at {l : List UInt8} {p : UInt8 → Bool} (h : l.all p = true) (i : Nat) (hi : i < l.length) : p (l.getD i 0) = true := by
  rw [List.all_eq_true] at h; exact h _ (by rw [List.getD_eq_getElem?_getD, List.getElem?_eq_getElem hi]; exact List.getElem_mem _)
theorem turn_back (a : List UInt8) (h : a.all bitB = true) : Kn (turnL (turnL a)) a := by
  refine ⟨by rw [len_turnL, len_turnL], fun i hi => ?_⟩
  rw [len_turnL, len_turnL] at hi
  have e : (turnL (turnL a)).getD i 0 = bnot (bnot (a.getD i 0)) := by
    unfold turnL; rw [getD_tab _ _ _ (by rw [len_tab]; exact hi), getD_tab _ _ _ hi]
  rw [e]; exact not_not _ (all_at h i hi)
end Lg
