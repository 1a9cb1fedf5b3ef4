/- Plain facts, more: sums, numbers, shifts. -/
import Derived.Test.YtnlfepfhabaekaaMath
namespace Lg
def bw (f : UInt8 → UInt8 → UInt8) (a b : List UInt8) (i : Nat) : UInt8 := f (a.getD i 0) (b.getD i 0)
def bitwise (f : UInt8 → UInt8 → UInt8) (a b : List UInt8) : List UInt8 := tab a.length (bw f a b)
def turnL (a : List UInt8) : List UInt8 := tab a.length fun i => bnot (a.getD i 0)
/-- what is carried behind so many bits, from the lowest on -/
def car (a b : List UInt8) (c : Nat) : Nat → Nat
  | 0 => c
  | k + 1 => (car a b c k + plc (a.getD (a.length - 1 - k) 0) + plc (b.getD (a.length - 1 - k) 0)) / 2
def sumN (a b : List UInt8) (c i : Nat) : Nat := car a b c (a.length - 1 - i) + plc (a.getD i 0) + plc (b.getD i 0)
def sumBit (a b : List UInt8) (c i : Nat) : UInt8 := if sumN a b c i % 2 = 1 then 49 else 48
def sumL (a b : List UInt8) (c : Nat) : List UInt8 := tab a.length (sumBit a b c)
def totL (a b : List UInt8) : List UInt8 := if kno a && kno b then sumL a b 0 else rep a.length 120
def difL (a b : List UInt8) : List UInt8 := if kno a && kno b then sumL a (turnL b) 1 else rep a.length 120
def upToN (l : List UInt8) (m : Nat) : Nat := if m ≤ num l then m else num l

theorem bxor_one (x : UInt8) : bxor x 49 = bnot x := by
  unfold bxor bnot; by_cases h : x = 48 <;> by_cases h2 : x = 49 <;> simp_all
theorem rep_getD (n : Nat) (c : UInt8) (i : Nat) (h : i < n) : (rep n c).getD i 0 = c := by simp [rep, h]
theorem turn_xor (s : List UInt8) (n : Nat) (hn : n = s.length) : bitwise bxor s (rep n 49) = turnL s :=
  tab_congr fun i hi => by unfold bw; rw [rep_getD _ _ _ (by omega), bxor_one]
theorem car_le (a b : List UInt8) (c k : Nat) (hc : c ≤ 6) : car a b c k ≤ 6 := by
  induction k with
  | zero => exact hc
  | succ k ih =>
    have := plc_lt (a.getD (a.length - 1 - k) 0); have := plc_lt (b.getD (a.length - 1 - k) 0)
    simp only [car]; omega
theorem num_snoc (l : List UInt8) (c : UInt8) : num (l ++ [c]) = 2 * num l + plc c := by simp [num, numStep]
theorem num_take_le (l : List UInt8) (k : Nat) : num (l.take k) ≤ num l := by
  have h : ∀ (r : List UInt8) (n : Nat), n ≤ r.foldl numStep n := by
    intro r
    induction r with
    | nil => intro n; exact Nat.le_refl _
    | cons c r ih => intro n; exact Nat.le_trans (by unfold numStep; omega) (ih _)
  have e : num l = (l.drop k).foldl numStep (num (l.take k)) := by
    unfold num; rw [← List.foldl_append, List.take_append_drop]
  rw [e]; exact h _ _
end Lg
