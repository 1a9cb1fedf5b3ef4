/- Plain facts, more: the reference's ways. -/
import Derived.Test.YtnlfepfhabaekaaMath4
namespace Lg
theorem rep_tab (n : Nat) (c : UInt8) : tab n (fun _ => c) = rep n c := by
  unfold tab rep; rw [List.map_const', List.length_range]
theorem bor_one (y : UInt8) : bor 49 y = 49 := by simp [bor]
theorem fold_one (l : List UInt8) : fold bor 49 l = 49 := by
  unfold fold
  induction l with
  | nil => rfl
  | cons c l ih => rw [List.foldl_cons, bor_one]; exact ih
theorem fold_snoc (f : UInt8 → UInt8 → UInt8) (c : UInt8) (l : List UInt8) (x : UInt8) : fold f c (l ++ [x]) = f (fold f c l) x := by simp [fold]
theorem fold_app (f : UInt8 → UInt8 → UInt8) (c : UInt8) (l r : List UInt8) : fold f c (l ++ r) = fold f (fold f c l) r := by simp [fold]
theorem tru_hit (s : ByteArray) (k : Nat) (h : k < s.size) (hc : s[k] = 49) : tru (L s) = 49 := by
  unfold tru
  rw [← List.take_append_drop (k + 1) (L s), fold_app, take_snoc s k h, fold_snoc, hc]
  have : bor (fold bor 48 ((L s).take k)) 49 = 49 := by simp [bor]
  rw [this]; exact fold_one _
theorem tru_step (s : ByteArray) (k : Nat) (h : k < s.size) (t : UInt8) (ht : t = tru ((L s).take k)) : tru ((L s).take (k + 1)) = bor t s[k] := by
  unfold tru at *; rw [take_snoc s k h, fold_snoc, ← ht]
theorem bor_nought (t c : UInt8) (ht : t = 48 ∨ t = 120) (hc : c = 48) : bor t c = t := by
  rcases ht with rfl | rfl <;> subst hc <;> rfl
theorem bor_other (t c : UInt8) (ht : t = 48 ∨ t = 120) (h1 : c ≠ 49) (h2 : c ≠ 48) : bor t c = 120 := by
  rcases ht with rfl | rfl <;> simp [bor, h1, h2]
theorem of_int {c : UInt8} {n : Nat} (h : (c.toNat : Int) = (n : Int)) (hn : n < 256) : c = UInt8.ofNat n := by
  rw [← UInt8.toNat_inj, UInt8.toNat_ofNat']; omega
theorem i48 (c : UInt8) : (c.toNat : Int) = 48 ↔ c = 48 := by rw [← UInt8.toNat_inj]; simp; omega
theorem i49 (c : UInt8) : (c.toNat : Int) = 49 ↔ c = 49 := by rw [← UInt8.toNat_inj]; simp; omega
theorem i120 (c : UInt8) : (c.toNat : Int) = 120 ↔ c = 120 := by rw [← UInt8.toNat_inj]; simp; omega
theorem i122 (c : UInt8) : (c.toNat : Int) = 122 ↔ c = 122 := by rw [← UInt8.toNat_inj]; simp; omega
theorem iEq (c d : UInt8) : (c.toNat : Int) = (d.toNat : Int) ↔ c = d := by rw [← UInt8.toNat_inj]; omega
def bz (b : UInt8) : UInt8 := if b = 122 then 120 else b
/-- the reference's ^ : of bits that may be it is the table's -/
def rxor (a b : UInt8) : UInt8 := if bz a = 120 ∨ bz b = 120 then 120 else if bz a = bz b then 48 else 49
theorem rxor_bits (a b : UInt8) (ha : bitB a = true) (hb : bitB b = true) : rxor a b = bxor a b := by
  simp only [bitB, Bool.or_eq_true, beq_iff_eq] at ha hb
  rcases ha with ((rfl | rfl) | rfl) | rfl <;> rcases hb with ((rfl | rfl) | rfl) | rfl <;> rfl
theorem bor_not (a b : UInt8) : bnot (band (bnot a) (bnot b)) = bor a b := by
  unfold bor band bnot
  by_cases h1 : a = 48 <;> by_cases h2 : a = 49 <;> by_cases h3 : b = 48 <;> by_cases h4 : b = 49 <;> simp_all
end Lg
