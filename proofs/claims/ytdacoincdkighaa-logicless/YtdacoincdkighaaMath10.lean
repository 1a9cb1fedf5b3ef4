/- Plain facts, more: of less, as much and more just one is so. -/
import Derived.Test.YtdacoincdkighaaMath8
namespace Lg
open Go
theorem less_irrefl (a : List UInt8) : Op.bytesLess a a = false := by
  induction a with
  | nil => rfl
  | cons c a ih => simp [Op.bytesLess, ih]
theorem less_eq {a b : List UInt8} (h : (a == b) = true) : Op.bytesLess a b = false := by
  have : a = b := by simpa using h
  rw [this]; exact less_irrefl b
def wide (a b : List UInt8) : Nat := max a.length b.length
def ltF (a b : List UInt8) : Bool := Op.bytesLess (fit a (wide a b)) (fit b (wide a b))
def eqF (a b : List UInt8) : Bool := fit a (wide a b) == fit b (wide a b)
theorem not_both (a b : List UInt8) : ltF a b = true → eqF a b = true → False := by
  intro h1 h2; unfold ltF at h1; rw [less_eq h2] at h1; exact absurd h1 (by decide)
theorem kno_fit (l : List UInt8) (n : Nat) (h : kno l = true) : kno (fit l n) = true := by
  unfold kno at h ⊢
  rw [List.all_eq_true] at h ⊢
  intro x hx
  unfold fit at hx
  split at hx
  · exact h x (List.mem_of_mem_drop hx)
  · rcases List.mem_append.1 hx with hx | hx
    · rw [List.eq_of_mem_replicate hx]; rfl
    · exact h x hx
theorem unk_fit (l : List UInt8) (n : Nat) (h : kno l = false) (hn : l.length ≤ n) : kno (fit l n) = false := by
  unfold kno at h ⊢
  rw [List.all_eq_false] at h ⊢
  obtain ⟨x, hx, hp⟩ := h
  refine ⟨x, ?_, hp⟩
  unfold fit
  split
  · rename_i h2; rw [show l.length - n = 0 by omega, List.drop_zero]; exact hx
  · exact List.mem_append_right _ hx
theorem bin_cmp (op : Int) (a b : List UInt8) (h : 17 ≤ op) (h2 : op ≤ 22) : binL op a b = cmpL op (fit a (wide a b)) (fit b (wide a b)) := by
  unfold binL oneW wide
  rw [if_neg (by omega), if_neg (by omega), if_neg (by omega), if_neg (by omega), if_neg (by omega), if_neg (by omega), if_neg (by omega), if_neg (by omega)]
theorem cmp_known (op : Int) (a b : List UInt8) (h : 17 ≤ op) (h2 : op ≤ 22) (ka : kno a = true) (kb : kno b = true) : binL op a b = bitL (holdL op (fit a (wide a b)) (fit b (wide a b))) := by
  rw [bin_cmp op a b h h2]; unfold cmpL; rw [kno_fit _ _ ka, kno_fit _ _ kb]; rfl
theorem cmp_unknown (op : Int) (a b : List UInt8) (h : 17 ≤ op) (h2 : op ≤ 22) (k : (kno a && kno b) = false) : binL op a b = [120] := by
  rw [bin_cmp op a b h h2]; unfold cmpL
  have hk : (kno (fit a (wide a b)) && kno (fit b (wide a b))) = false := by
    by_cases ka : kno a = true
    · have kb : kno b = false := by rw [ka] at k; simpa using k
      rw [unk_fit b _ kb (by unfold wide; omega)]; simp
    · rw [unk_fit a _ (by simpa using ka) (by unfold wide; omega)]; rfl
  rw [hk]; rfl
theorem hold17 (a b : List UInt8) : holdL 17 (fit a (wide a b)) (fit b (wide a b)) = ltF a b := by unfold holdL ltF; simp
theorem hold18 (a b : List UInt8) : holdL 18 (fit a (wide a b)) (fit b (wide a b)) = (ltF a b || eqF a b) := by unfold holdL ltF eqF; simp
theorem hold19 (a b : List UInt8) : holdL 19 (fit a (wide a b)) (fit b (wide a b)) = (!ltF a b && !eqF a b) := by unfold holdL ltF eqF; simp
theorem hold20 (a b : List UInt8) : holdL 20 (fit a (wide a b)) (fit b (wide a b)) = !ltF a b := by unfold holdL ltF; simp
theorem hold21 (a b : List UInt8) : holdL 21 (fit a (wide a b)) (fit b (wide a b)) = eqF a b := by unfold holdL eqF; simp
theorem hold22 (a b : List UInt8) : holdL 22 (fit a (wide a b)) (fit b (wide a b)) = !eqF a b := by unfold holdL eqF; simp
theorem kno_app (a b : List UInt8) : kno (a ++ b) = (kno a && kno b) := by unfold kno; rw [List.all_append]
end Lg
