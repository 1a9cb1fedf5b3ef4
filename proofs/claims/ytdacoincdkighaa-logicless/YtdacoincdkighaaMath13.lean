/- Plain facts, more: how long answers are. -/
import Derived.Test.YtdacoincdkighaaMath12
namespace Lg
set_option linter.unusedVariables false
theorem len_cmp (op : Int) (a b : List UInt8) : (cmpL op a b).length = 1 := by unfold cmpL; split; exact len_bit _; rfl
theorem len_oneW (op : Int) (a b : List UInt8) (h1 : 1 ≤ a.length) (h : a.length ≤ 256) : (oneW op a b).length ≤ 256 := by
  unfold oneW
  split; · rw [len_tot]; exact h
  split; · rw [len_dif]; exact h
  split; · rw [len_bitwise]; exact h
  split; · rw [len_bitwise]; exact h
  split; · rw [len_bitwise]; exact h
  rw [len_cmp]; omega
theorem len_bin (op : Int) (a b : List UInt8) (h1 : 1 ≤ a.length) (h : a.length ≤ 256) (h2 : 1 ≤ b.length) (h3 : b.length ≤ 256) : (binL op a b).length ≤ 256 := by
  unfold binL
  split; · rw [len_shift]; exact h
  split; · simp
  split; · simp
  exact len_oneW op _ _ (by rw [len_fit]; omega) (by rw [len_fit]; omega)
theorem len_una (op : Int) (a : List UInt8) (h1 : 1 ≤ a.length) (h : a.length ≤ 256) : (unaL op a).length ≤ 256 := by
  unfold unaL
  split; · rw [len_turnL]; exact h
  split; · rw [len_dif, len_rep]; exact h
  split; · simp
  split; · simp
  split; · simp
  simp
theorem len_cond (c a b : List UInt8) (h : a.length ≤ 256) (h2 : b.length ≤ 256) : (condL c a b).length ≤ 256 := by
  unfold condL
  split; · exact h
  split; · exact h2
  rw [len_bitwise]; exact h
theorem len_bt (a b : List UInt8) : (btL a b).length = 1 := by
  unfold btL; split
  · split <;> rfl
  · rfl
/-- a vector of which some bits are hidden -/
def Gd (u v : List UInt8) : Prop := Kn u v ∧ u.all bitB = true
theorem gd_vec {u v : List UInt8} (h : Gd u v) (hv : vec v = true) : vec u = true := vec_mk (by rw [h.1.1]; exact (vec_len hv).1) (by rw [h.1.1]; exact (vec_len hv).2) h.2
theorem gd_tab (v : List UInt8) (f : Nat → UInt8) (hv : vec v = true) (h : ∀ i, i < v.length → Le1 (f i) (v.getD i 0)) : Gd (tab v.length f) v := by
  refine ⟨kn_mk (len_tab _ _) fun i hi => by rw [getD_tab _ _ _ hi]; exact h i hi, tab_all fun i hi => ?_⟩
  rcases h i hi with e | e
  · rw [e]; rfl
  · rw [e]; exact all_at (vec_all hv) i hi
end Lg
