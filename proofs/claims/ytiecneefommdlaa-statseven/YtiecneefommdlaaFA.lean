/- Layer 20: floats, plain: how two of them stand. -/
import Derived.Test.YtiecneefommdlaaGKa
import Derived.Laws.FloatArith
namespace Go.Proofs.Ytiecneefommdlaa
set_option maxRecDepth 100000
open Go.RowKit Lg Nl Go.Maps
set_option linter.unusedVariables false
set_option linter.unusedSimpArgs false

namespace Fl
open Ieee
/-- what a word stands for -/
def rd (x : Nat) : Datum := double.read x
def nanB (x : Nat) : Bool := (rd x).isNaN
def minusB (x : Nat) : Bool := !nanB x && (rd x).neg
def lp : Int := double.leastPlace
/-- a number in units of the least place -/
def valD : Datum → Int
  | .number s m i => signed s m (i - lp).toNat
  | _ => 0
def clsD : Datum → Int
  | .number .. => 0
  | .infinity s => if s then -1 else 1
  | .nan .. => 2
def sgnD : Datum → Int
  | .number s .. => if s then -1 else 0
  | _ => 0
def inR : Datum → Prop
  | .number _ _ i => lp ≤ i
  | _ => True
theorem rd_in (x : Nat) : inR (rd x) := by
  unfold rd Format.read
  simp only
  split
  · exact Int.le_refl _
  · split
    · show lp ≤ double.leastPlace + _
      have : lp = double.leastPlace := rfl
      omega
    · split <;> trivial
theorem signed_add (s : Bool) (m a b : Nat) : signed s m (a + b) = signed s m a * (2 ^ b : Nat) := by
  unfold signed
  rw [Nat.shiftLeft_eq, Nat.shiftLeft_eq, Nat.pow_add, ← Nat.mul_assoc]
  cases s
  · simp
  · simp [Int.neg_mul]
theorem cmp_mul (a b : Int) (k : Nat) : compare (a * (2 ^ k : Nat)) (b * (2 ^ k : Nat)) = compare a b := by
  have hk : (0 : Int) < ((2 ^ k : Nat) : Int) := by exact_mod_cast Nat.two_pow_pos k
  rcases Int.lt_trichotomy a b with h | h | h
  · rw [show compare a b = .lt from Int.compare_eq_lt.2 h]; exact Int.compare_eq_lt.2 (Int.mul_lt_mul_of_pos_right h hk)
  · subst h; rw [show compare a a = .eq from Int.compare_eq_eq.2 rfl]; exact Int.compare_eq_eq.2 rfl
  · rw [show compare a b = .gt from Int.compare_eq_gt.2 h]; exact Int.compare_eq_gt.2 (Int.mul_lt_mul_of_pos_right h hk)
theorem ord_num {s t : Bool} {m n : Nat} {i j : Int} (hi : lp ≤ i) (hj : lp ≤ j) : Datum.order (.number s m i) (.number t n j) = some (compare (valD (.number s m i)) (valD (.number t n j))) := by
  show some (compare (signed s m (i - min i j).toNat) (signed t n (j - min i j).toNat)) = _
  have e1 : (i - lp).toNat = (i - min i j).toNat + (min i j - lp).toNat := by omega
  have e2 : (j - lp).toNat = (j - min i j).toNat + (min i j - lp).toNat := by omega
  show _ = some (compare (signed s m (i - lp).toNat) (signed t n (j - lp).toNat))
  rw [e1, e2, signed_add, signed_add, cmp_mul]
theorem signed_neg {s : Bool} {m k : Nat} : signed s m k < 0 ↔ s = true ∧ m ≠ 0 := by
  unfold signed
  rw [Nat.shiftLeft_eq]
  have hp : 0 < 2 ^ k := Nat.two_pow_pos k
  cases s
  · simp
    exact Int.natCast_nonneg _
  · simp
    constructor
    · intro h
      by_cases e : m = 0
      · subst e; simp at h
      · exact e
    · intro h
      have : 0 < m * 2 ^ k := Nat.mul_pos (Nat.pos_of_ne_zero h) hp
      exact_mod_cast this
theorem signed_zero {s : Bool} {m k : Nat} : signed s m k = 0 ↔ m = 0 := by
  unfold signed
  rw [Nat.shiftLeft_eq]
  have hp : 2 ^ k ≠ 0 := Nat.ne_of_gt (Nat.two_pow_pos k)
  have h : ((m * 2 ^ k : Nat) : Int) = 0 ↔ m = 0 := by rw [Int.natCast_eq_zero, Nat.mul_eq_zero]; exact ⟨fun h => h.resolve_right hp, Or.inl⟩
  cases s
  · exact h
  · show -((m * 2 ^ k : Nat) : Int) = 0 ↔ _
    rw [Int.neg_eq_zero]; exact h
/-- how two floats stand -/
def ordD (a b : Datum) : Int :=
  if clsD a < clsD b then -1 else if clsD b < clsD a then 1 else if valD a < valD b then -1 else if valD b < valD a then 1 else if sgnD a < sgnD b then -1 else if sgnD b < sgnD a then 1 else 0
def ordI (x y : Nat) : Int := ordD (rd x) (rd y)
def sameB (x y : Nat) : Bool := decide (ordI x y = 0)
theorem ordD_anti (a b : Datum) : ordD b a = - ordD a b := by
  unfold ordD
  generalize clsD a = a1; generalize clsD b = b1; generalize valD a = a2; generalize valD b = b2; generalize sgnD a = a3; generalize sgnD b = b3
  repeat' split
  all_goals omega
theorem ordD_le (a b c : Datum) : ordD a b ≤ 0 → ordD b c ≤ 0 → ordD a c ≤ 0 := by
  unfold ordD
  generalize clsD a = a1; generalize clsD b = b1; generalize clsD c = c1; generalize valD a = a2; generalize valD b = b2; generalize valD c = c2; generalize sgnD a = a3; generalize sgnD b = b3; generalize sgnD c = c3
  intro h1 h2
  (repeat' split at h1) <;> (try omega) <;> (repeat' split at h2) <;> (try omega) <;> (repeat' split) <;> omega
theorem ordD_rng (a b : Datum) : ordD a b = -1 ∨ ordD a b = 0 ∨ ordD a b = 1 := by
  unfold ordD
  repeat' split
  all_goals omega
end Fl
end Go.Proofs.Ytiecneefommdlaa
