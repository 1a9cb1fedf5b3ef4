/- Plain facts, more: folds, and sums the other way round. -/
import Derived.Test.YtdacoincdkighaaMath6
namespace Lg
theorem bit_cases {c : UInt8} (h : bitB c = true) : c = 48 ∨ c = 49 ∨ c = 120 ∨ c = 122 := by
  simp only [bitB, Bool.or_eq_true, beq_iff_eq] at h; rcases h with ((h | h) | h) | h <;> simp [h]
theorem and_first {c : UInt8} (h : bitB c = true) : band 49 c = bz c := by rcases bit_cases h with rfl | rfl | rfl | rfl <;> rfl
theorem or_first {c : UInt8} (h : bitB c = true) : bor 48 c = bz c := by rcases bit_cases h with rfl | rfl | rfl | rfl <;> rfl
theorem xor_first {c : UInt8} (h : bitB c = true) : bxor 48 c = bz c := by rcases bit_cases h with rfl | rfl | rfl | rfl <;> rfl
theorem bxor_bit (a b : UInt8) : bitB (bxor a b) = true := by unfold bxor; split <;> (try split) <;> rfl
theorem bz_bit {c : UInt8} (h : bitB c = true) : bitB (bz c) = true := by rcases bit_cases h with rfl | rfl | rfl | rfl <;> rfl
theorem vec_at (s : ByteArray) (h : vec (L s) = true) (i : Nat) (hi : i < s.size) : bitB s[i] = true := by
  unfold vec at h; simp only [Bool.and_eq_true, List.all_eq_true] at h
  exact h.2 _ (by rw [← L_get s i hi]; exact List.getElem_mem _)
theorem vec_all {l : List UInt8} (h : vec l = true) : l.all bitB = true := by unfold vec at h; simp only [Bool.and_eq_true] at h; exact h.2
theorem fold_first (f : UInt8 → UInt8 → UInt8) (c : UInt8) (s : ByteArray) (h : 0 < s.size) : fold f c ((L s).take 1) = f c s[0] := by
  have := take_snoc s 0 h
  simp only [Nat.zero_add, List.take_zero, List.nil_append] at this
  rw [this]; rfl
theorem fold_next (f : UInt8 → UInt8 → UInt8) (c : UInt8) (s : ByteArray) (k : Nat) (h : k < s.size) (t : UInt8) (ht : t = fold f c ((L s).take k)) : fold f c ((L s).take (k + 1)) = f t s[k] := by
  rw [take_snoc s k h, fold_snoc, ← ht]
theorem car_comm (a b : List UInt8) (c k : Nat) (h : a.length = b.length) : car a b c k = car b a c k := by
  induction k with
  | zero => rfl
  | succ k ih => simp only [car]; rw [ih, h]; omega
theorem sumL_comm (a b : List UInt8) (c : Nat) (h : a.length = b.length) : sumL a b c = sumL b a c := by
  unfold sumL
  rw [h]
  refine tab_congr fun i hi => ?_
  unfold sumBit sumN
  rw [car_comm a b c _ h, h]
  congr 1; congr 1; congr 1; omega
theorem kno_rep (n : Nat) (c : UInt8) (h : knoB c = true) : kno (rep n c) = true := by
  unfold kno rep; rw [List.all_eq_true]; intro x hx; rw [List.eq_of_mem_replicate hx]; exact h
theorem kno_turn (a : List UInt8) (h : kno a = true) : kno (turnL a) = true := by
  unfold turnL kno
  refine tab_all fun i hi => ?_
  unfold kno at h; rw [List.all_eq_true] at h
  have hm : a.getD i 0 ∈ a := by rw [List.getD_eq_getElem?_getD, List.getElem?_eq_getElem hi]; exact List.getElem_mem _
  have := h _ hm
  simp only [knoB, Bool.or_eq_true, beq_iff_eq] at this
  rcases this with e | e <;> rw [e] <;> rfl
theorem neg_ref (a : List UInt8) (h : kno a = true) : difL (rep a.length 48) a = sumL (turnL a) (rep a.length 48) 1 := by
  unfold difL; rw [kno_rep _ _ rfl, h]
  simp only [Bool.and_self, if_true]
  rw [sumL_comm _ _ _ (by rw [len_rep, len_turnL])]
theorem neg_unk (a : List UInt8) (h : kno a = false) : difL (rep a.length 48) a = rep a.length 120 := by
  unfold difL; rw [h]; simp [len_rep]
end Lg
