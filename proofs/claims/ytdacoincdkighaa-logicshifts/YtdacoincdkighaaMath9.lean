/- Plain facts, more: shifts add up. -/
import Derived.Test.YtdacoincdkighaaMath8
namespace Lg
def mn (p n : Nat) : Nat := if n ≤ p then n else p
theorem mn_le (p n : Nat) : mn p n ≤ n := by unfold mn; split <;> omega
theorem upTo_of (p n : Nat) (hp : p < 512) : upToN (ofL p 9) n = mn p n := by unfold upToN mn; rw [num_ofL, Nat.mod_eq_of_lt (by omega)]
theorem bin_shl (v : List UInt8) (p : Nat) (hp : p < 512) : binL 15 v (ofL p 9) = shlL v (mn p v.length) := by
  unfold binL shiftL; rw [if_pos (.inl rfl), ofL_kno, upTo_of _ _ hp]; rfl
theorem bin_shr (v : List UInt8) (p : Nat) (hp : p < 512) : binL 16 v (ofL p 9) = shrL v (mn p v.length) := by
  unfold binL shiftL; rw [if_pos (.inr rfl), ofL_kno, upTo_of _ _ hp]; rfl
theorem len_shl (v : List UInt8) (n : Nat) (h : n ≤ v.length) : (shlL v n).length = v.length := by unfold shlL; rw [List.length_append, List.length_drop, len_rep]; omega
theorem len_shr (v : List UInt8) (n : Nat) (h : n ≤ v.length) : (shrL v n).length = v.length := by unfold shrL; rw [List.length_append, List.length_take, len_rep]; omega
theorem all_shl (v : List UInt8) (n : Nat) (h : v.all bitB = true) : (shlL v n).all bitB = true := by
  unfold shlL rep; rw [List.all_append, Bool.and_eq_true]
  rw [List.all_eq_true] at h
  refine ⟨?_, ?_⟩ <;> rw [List.all_eq_true] <;> intro x hx
  · exact h x (List.mem_of_mem_drop hx)
  · rw [List.eq_of_mem_replicate hx]; rfl
theorem all_shr (v : List UInt8) (n : Nat) (h : v.all bitB = true) : (shrL v n).all bitB = true := by
  unfold shrL rep; rw [List.all_append, Bool.and_eq_true]
  rw [List.all_eq_true] at h
  refine ⟨?_, ?_⟩ <;> rw [List.all_eq_true] <;> intro x hx
  · rw [List.eq_of_mem_replicate hx]; rfl
  · exact h x (List.mem_of_mem_take hx)
theorem shl_at (v : List UInt8) (p i : Nat) (hi : i < v.length) : (shlL v (mn p v.length)).getD i 0 = if i + p < v.length then v.getD (i + p) 0 else 48 := by
  have h := mn_le p v.length
  unfold shlL
  by_cases c : i + p < v.length
  · have e : mn p v.length = p := by unfold mn; rw [if_neg (by omega)]
    rw [if_pos c, e, getD_append_l _ _ _ (by rw [List.length_drop]; omega), getD_drop, Nat.add_comm]
  · have e : v.length ≤ i + mn p v.length := by unfold mn; split <;> omega
    rw [if_neg c, getD_append_r _ _ _ (by rw [List.length_drop]; omega), rep_getD _ _ _ (by rw [List.length_drop]; omega)]
theorem shr_at (v : List UInt8) (p i : Nat) (hi : i < v.length) : (shrL v (mn p v.length)).getD i 0 = if p ≤ i then v.getD (i - p) 0 else 48 := by
  have h := mn_le p v.length
  unfold shrL
  by_cases c : p ≤ i
  · have e : mn p v.length = p := by unfold mn; rw [if_neg (by omega)]
    rw [if_pos c, e, getD_append_r _ _ _ (by rw [len_rep]; omega), getD_take _ _ _ (by rw [len_rep]; omega), len_rep]
  · have e : i < mn p v.length := by unfold mn; split <;> omega
    rw [if_neg c, getD_append_l _ _ _ (by rw [len_rep]; exact e), rep_getD _ _ _ e]
theorem vec_shl {v : List UInt8} (n : Nat) (h : vec v = true) (hn : n ≤ v.length) : vec (shlL v n) = true :=
  vec_mk (by rw [len_shl _ _ hn]; exact (vec_len h).1) (by rw [len_shl _ _ hn]; exact (vec_len h).2) (all_shl v n (vec_all h))
theorem shl_shl (v : List UInt8) (p q : Nat) : shlL (shlL v (mn p v.length)) (mn q v.length) = shlL v (mn (p + q) v.length) := by
  have l1 := len_shl v _ (mn_le p v.length)
  have l2 : (shlL (shlL v (mn p v.length)) (mn q v.length)).length = v.length := by rw [len_shl _ _ (by rw [l1]; exact mn_le q _), l1]
  apply list_eq
  · rw [l2, len_shl _ _ (mn_le _ _)]
  · intro i hi
    rw [l2] at hi
    have e := shl_at (shlL v (mn p v.length)) q i (by rw [l1]; exact hi)
    rw [l1] at e
    rw [e, shl_at v (p + q) i hi]
    by_cases c : i + q < v.length
    · rw [if_pos c, shl_at v p (i + q) c]
      by_cases c2 : i + q + p < v.length
      · rw [if_pos c2, if_pos (by omega), show i + (p + q) = i + q + p by omega]
      · rw [if_neg c2, if_neg (by omega)]
    · rw [if_neg c, if_neg (by omega)]
theorem shl_shr_at (v : List UInt8) (p i : Nat) (hi : i < v.length) : (shrL (shlL v (mn p v.length)) (mn p v.length)).getD i 0 = if p ≤ i then v.getD i 0 else 48 := by
  have l1 := len_shl v _ (mn_le p v.length)
  have e := shr_at (shlL v (mn p v.length)) p i (by rw [l1]; exact hi)
  rw [l1] at e
  rw [e]
  by_cases c : p ≤ i
  · rw [if_pos c, if_pos c, shl_at v p (i - p) (by omega), if_pos (by omega), show i - p + p = i by omega]
  · rw [if_neg c, if_neg c]
end Lg
