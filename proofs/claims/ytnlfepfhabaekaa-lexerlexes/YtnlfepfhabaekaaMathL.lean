/- Layer 2, plain: bytes' kinds, whole numbers, digits, numbers' texts. No program in sight. -/
import Derived.Test.YtnlfepfhabaekaaMath5
namespace Lg
def hd0 (l : List UInt8) : UInt8 := l.headD 0
def digB (c : UInt8) : Bool := decide (48 ≤ c.toNat ∧ c.toNat ≤ 57)
def letB (c : UInt8) : Bool := decide ((97 ≤ c.toNat ∧ c.toNat ≤ 122) ∨ (65 ≤ c.toNat ∧ c.toNat ≤ 90) ∨ c.toNat = 95)
def worB (c : UInt8) : Bool := letB c || digB c
/-- the number of decimal digits, going on from n, up to m -/
def whF (m : Nat) : Nat → List UInt8 → Option Nat
  | n, [] => some n
  | n, c :: l => if digB c then (if 10 * n + (c.toNat - 48) ≤ m then whF m (10 * n + (c.toNat - 48)) l else none) else none
def whV (m : Nat) (l : List UInt8) : Option Nat := if l = [] then none else whF m 0 l
def oN (o : Option Nat) : Nat := o.getD 0
def oB {α : Type} (o : Option α) : Bool := o.isSome
def oS (o : Option (List UInt8)) : List UInt8 := o.getD []
/-- the number of a hexadecimal digit -/
def hexV (c : UInt8) : Option Nat :=
  if digB c then some (c.toNat - 48) else if 97 ≤ c.toNat ∧ c.toNat ≤ 102 then some (c.toNat - 87) else if 65 ≤ c.toNat ∧ c.toNat ≤ 70 then some (c.toNat - 55) else none
/-- the bits of a digit of k bits -/
def dgt (k : Nat) (c : UInt8) : Option (List UInt8) :=
  if c = 120 ∨ c = 122 then some (rep k c) else match hexV c with
    | none => none
    | some n => if n < 2 ^ k then some (ofL n k) else none
/-- the bits of digits -/
def cat (k : Nat) : List UInt8 → Option (List UInt8)
  | [] => some []
  | c :: l => match dgt k c with
    | none => none
    | some b => (cat k l).map (b ++ ·)
/-- bits cut to a width, or with what stands ahead -/
def strV (b : List UInt8) (w : Nat) : Option (List UInt8) :=
  if b = [] then none else if w ≤ b.length then some (b.drop (b.length - w)) else
  if hd0 b = 120 ∨ hd0 b = 122 then some (rep (w - b.length) (hd0 b) ++ b) else some (fit b w)
def groV (k w : Nat) (l : List UInt8) : Option (List UInt8) := (cat k l).bind fun _ => (cat k (l.drop (l.length - w))).bind fun b => strV b w
def basV (c : UInt8) (l : List UInt8) (w : Nat) : Option (List UInt8) :=
  if c = 98 then groV 1 w l else if c = 104 then groV 4 w l else if c = 100 then (whV 2147483647 l).map (ofL · w) else none
/-- ahead of the first mark, and behind it -/
def pre39 (l : List UInt8) : List UInt8 := l.takeWhile (· != 39)
def pos39 (l : List UInt8) : List UInt8 := (l.dropWhile (· != 39)).drop 1
def has39 (l : List UInt8) : Bool := l.any (· == 39)
/-- a number's text: the vector, and whether it is plain -/
def numV (l : List UInt8) : Option (List UInt8 × Bool) :=
  match whV 4294967295 (pre39 l) with
  | none => none
  | some n => if 1 < (pre39 l).length ∧ hd0 (pre39 l) = 48 then none else
    if has39 l = false then some (ofL n 32, true) else
    if n < 1 ∨ 256 < n then none else match pos39 l with
      | [] => none
      | c :: r => (basV c r n).map (·, false)
theorem whF_le {m n x : Nat} {l : List UInt8} (hn : n ≤ m) (h : whF m n l = some x) : x ≤ m := by
  induction l generalizing n with
  | nil => simp [whF] at h; omega
  | cons c l ih =>
    simp only [whF] at h
    split at h
    · split at h
      · exact ih (by assumption) h
      · cases h
    · cases h
theorem whV_le {m x : Nat} {l : List UInt8} (h : whV m l = some x) : x ≤ m := by
  unfold whV at h; split at h
  · cases h
  · exact whF_le (Nat.zero_le _) h
theorem dgt_len {k : Nat} {c : UInt8} {b : List UInt8} (h : dgt k c = some b) : b.length = k := by
  unfold dgt at h
  split at h
  · cases h; exact len_rep _ _
  · split at h
    · cases h
    · split at h
      · cases h; exact len_ofL _ _
      · cases h
theorem dgt_bits {k : Nat} {c : UInt8} {b : List UInt8} (h : dgt k c = some b) : b.all bitB = true := by
  unfold dgt at h
  split at h
  · cases h
    rename_i h1
    unfold rep
    rw [List.all_replicate]
    rcases h1 with rfl | rfl <;> simp [bitB]
  · split at h
    · cases h
    · split at h
      · cases h; exact tab_all fun i _ => kno_bit (ofBit_kno _ _ _)
      · cases h
theorem cat_append (k : Nat) (a b : List UInt8) : cat k (a ++ b) = (cat k a).bind fun x => (cat k b).map (x ++ ·) := by
  induction a with
  | nil => cases h : cat k b <;> simp [cat, h]
  | cons c a ih =>
    simp only [cat, List.cons_append]
    cases dgt k c with
    | none => rfl
    | some d => rw [ih]; cases cat k a <;> cases cat k b <;> simp
theorem cat_len {k : Nat} {l b : List UInt8} (h : cat k l = some b) : b.length = k * l.length := by
  induction l generalizing b with
  | nil => simp [cat] at h; subst h; simp
  | cons c l ih =>
    simp only [cat] at h
    cases hd : dgt k c with
    | none => rw [hd] at h; cases h
    | some d =>
      rw [hd] at h
      cases hc : cat k l with
      | none => rw [hc] at h; cases h
      | some x =>
        rw [hc] at h
        simp at h
        rw [← h, List.length_append, dgt_len hd, ih hc, List.length_cons, Nat.mul_succ]; omega
theorem cat_bits {k : Nat} {l b : List UInt8} (h : cat k l = some b) : b.all bitB = true := by
  induction l generalizing b with
  | nil => simp [cat] at h; subst h; simp
  | cons c l ih =>
    simp only [cat] at h
    cases hd : dgt k c with
    | none => rw [hd] at h; cases h
    | some d =>
      rw [hd] at h
      cases hc : cat k l with
      | none => rw [hc] at h; cases h
      | some x =>
        rw [hc] at h
        simp at h
        rw [← h, List.all_append, dgt_bits hd, ih hc]; rfl
theorem cat_tail {k : Nat} {a b x : List UInt8} (h : cat k (a ++ b) = some x) : ∃ y, cat k b = some y := by
  rw [cat_append] at h
  cases ha : cat k a with
  | none => rw [ha] at h; cases h
  | some p =>
    cases hb : cat k b with
    | none => rw [ha, hb] at h; cases h
    | some q => exact ⟨q, rfl⟩
theorem cat_drop {k n : Nat} {l x : List UInt8} (h : cat k l = some x) : ∃ y, cat k (l.drop n) = some y := by
  rw [← List.take_append_drop n l] at h; exact cat_tail h
end Lg
