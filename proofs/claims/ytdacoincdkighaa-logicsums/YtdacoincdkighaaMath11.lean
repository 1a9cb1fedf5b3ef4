/- Plain facts, more: vectors of numbers are added, turned and held against one another as their numbers are. -/
import Derived.Test.YtdacoincdkighaaMath10
namespace Lg
open Go
def lowB (n : Nat) : UInt8 := if n % 2 = 1 then 49 else 48
theorem plc_low (n : Nat) : plc (lowB n) = n % 2 := by
  unfold lowB; by_cases h : n % 2 = 1
  · rw [if_pos h, h]; rfl
  · rw [if_neg h, show n % 2 = 0 by omega]; rfl
theorem ofL_snoc (n w : Nat) : ofL n (w + 1) = ofL (n / 2) w ++ [lowB n] := ofL_succ n w
theorem car_snoc (a b : List UInt8) (p q : UInt8) (c k : Nat) (h : a.length = b.length) (hk : k ≤ a.length) : car (a ++ [p]) (b ++ [q]) c (k + 1) = car a b ((c + plc p + plc q) / 2) k := by
  induction k with
  | zero =>
    simp only [car, List.length_append, List.length_singleton]
    rw [show a.length + 1 - 1 - 0 = a.length by omega, getD_append_r _ _ _ (Nat.le_refl _), Nat.sub_self]
    rw [getD_append_r _ _ _ (by omega), show a.length - b.length = 0 by omega]; rfl
  | succ k ih =>
    rw [car, ih (by omega)]
    simp only [car, List.length_append, List.length_singleton]
    rw [show a.length + 1 - 1 - (k + 1) = a.length - 1 - k by omega, getD_append_l _ _ _ (by omega), getD_append_l _ _ _ (by omega)]
theorem sumL_snoc (a b : List UInt8) (p q : UInt8) (c : Nat) (h : a.length = b.length) : sumL (a ++ [p]) (b ++ [q]) c = sumL a b ((c + plc p + plc q) / 2) ++ [lowB (c + plc p + plc q)] := by
  unfold sumL
  rw [List.length_append, List.length_singleton, tab_succ]
  congr 1
  · refine tab_congr fun i hi => ?_
    unfold sumBit sumN
    rw [List.length_append, List.length_singleton, show a.length + 1 - 1 - i = (a.length - 1 - i) + 1 by omega, car_snoc a b p q c _ h (by omega)]
    rw [getD_append_l _ _ _ hi, getD_append_l _ _ _ (by omega)]
  · unfold sumBit sumN lowB
    rw [List.length_append, List.length_singleton, show a.length + 1 - 1 - a.length = 0 by omega]
    rw [getD_append_r _ _ _ (Nat.le_refl _), Nat.sub_self, getD_append_r _ _ _ (by omega), show a.length - b.length = 0 by omega]
    rfl
theorem sum_of (x y c w : Nat) : sumL (ofL x w) (ofL y w) c = ofL (x + y + c) w := by
  induction w generalizing x y c with
  | zero => rfl
  | succ w ih =>
    rw [ofL_snoc x, ofL_snoc y, sumL_snoc _ _ _ _ _ (by rw [len_ofL, len_ofL]), ih, plc_low, plc_low, ofL_snoc (x + y + c)]
    have e1 : x / 2 + y / 2 + (c + x % 2 + y % 2) / 2 = (x + y + c) / 2 := by omega
    have e2 : (c + x % 2 + y % 2) % 2 = (x + y + c) % 2 := by omega
    rw [e1]; unfold lowB; rw [e2]
theorem turn_snoc (a : List UInt8) (p : UInt8) : turnL (a ++ [p]) = turnL a ++ [bnot p] := by
  unfold turnL
  rw [List.length_append, List.length_singleton, tab_succ]
  congr 1
  · refine tab_congr fun i hi => ?_
    rw [getD_append_l _ _ _ hi]
  · rw [getD_append_r _ _ _ (Nat.le_refl _), Nat.sub_self]; rfl
theorem turn_of (y w : Nat) (h : y < 2 ^ w) : turnL (ofL y w) = ofL (2 ^ w - 1 - y) w := by
  induction w generalizing y with
  | zero => rfl
  | succ w ih =>
    rw [Nat.pow_succ] at h
    rw [ofL_snoc y, turn_snoc, ih (y / 2) (by omega), ofL_snoc (2 ^ (w + 1) - 1 - y), Nat.pow_succ]
    have hp : 0 < 2 ^ w := Nat.two_pow_pos w
    rw [show (2 ^ w * 2 - 1 - y) / 2 = 2 ^ w - 1 - y / 2 by omega]
    congr 2
    unfold lowB
    by_cases c : y % 2 = 1
    · rw [if_pos c, if_neg (by omega)]; rfl
    · rw [if_neg c, if_pos (by omega)]; rfl
theorem ofBit_test (n w i : Nat) : ofBit n w i = if n.testBit (w - 1 - i) then 49 else 48 := by
  unfold ofBit; rw [Nat.testBit_eq_decide_div_mod_eq]; simp
theorem and_of (x y w : Nat) : bitwise band (ofL x w) (ofL y w) = ofL (x &&& y) w := by
  unfold bitwise; rw [len_ofL]
  refine tab_congr fun i hi => ?_
  unfold bw ofL
  rw [getD_tab _ _ _ hi, getD_tab _ _ _ hi, ofBit_test, ofBit_test, ofBit_test, Nat.testBit_and]
  cases x.testBit (w - 1 - i) <;> cases y.testBit (w - 1 - i) <;> rfl
theorem or_of (x y w : Nat) : bitwise bor (ofL x w) (ofL y w) = ofL (x ||| y) w := by
  unfold bitwise; rw [len_ofL]
  refine tab_congr fun i hi => ?_
  unfold bw ofL
  rw [getD_tab _ _ _ hi, getD_tab _ _ _ hi, ofBit_test, ofBit_test, ofBit_test, Nat.testBit_or]
  cases x.testBit (w - 1 - i) <;> cases y.testBit (w - 1 - i) <;> rfl
theorem xor_of (x y w : Nat) : bitwise bxor (ofL x w) (ofL y w) = ofL (x ^^^ y) w := by
  unfold bitwise; rw [len_ofL]
  refine tab_congr fun i hi => ?_
  unfold bw ofL
  rw [getD_tab _ _ _ hi, getD_tab _ _ _ hi, ofBit_test, ofBit_test, ofBit_test, Nat.testBit_xor]
  cases x.testBit (w - 1 - i) <;> cases y.testBit (w - 1 - i) <;> rfl
theorem less_snoc (a b : List UInt8) (p q : UInt8) (h : a.length = b.length) : Op.bytesLess (a ++ [p]) (b ++ [q]) = (Op.bytesLess a b || (a == b && decide (p < q))) := by
  induction a generalizing b with
  | nil =>
    cases b with
    | nil => simp [Op.bytesLess]
    | cons d b => simp at h
  | cons c a ih =>
    cases b with
    | nil => simp at h
    | cons d b =>
      simp only [List.cons_append, Op.bytesLess, ih b (by simpa using h), List.cons_beq_cons]
      cases decide (c < d) <;> cases (c == d) <;> simp
theorem ofL_eq (x y w : Nat) (hx : x < 2 ^ w) (hy : y < 2 ^ w) : (ofL x w == ofL y w) = decide (x = y) := by
  rw [Bool.eq_iff_iff]
  simp only [beq_iff_eq, decide_eq_true_eq]
  constructor
  · intro h
    have := congrArg num h
    rwa [num_ofL, num_ofL, Nat.mod_eq_of_lt hx, Nat.mod_eq_of_lt hy] at this
  · intro h; rw [h]
theorem less_of (x y w : Nat) (hx : x < 2 ^ w) (hy : y < 2 ^ w) : Op.bytesLess (ofL x w) (ofL y w) = decide (x < y) := by
  induction w generalizing x y with
  | zero => simp at hx hy; subst hx; subst hy; rfl
  | succ w ih =>
    rw [Nat.pow_succ] at hx hy
    rw [ofL_snoc x, ofL_snoc y, less_snoc _ _ _ _ (by rw [len_ofL, len_ofL]), ih (x / 2) (y / 2) (by omega) (by omega), ofL_eq (x / 2) (y / 2) w (by omega) (by omega)]
    have hl : decide (lowB x < lowB y) = decide (x % 2 < y % 2) := by
      unfold lowB
      by_cases c1 : x % 2 = 1 <;> by_cases c2 : y % 2 = 1
      · rw [if_pos c1, if_pos c2, c1, c2]; rfl
      · rw [if_pos c1, if_neg c2, c1, show y % 2 = 0 by omega]; rfl
      · rw [if_neg c1, if_pos c2, c2, show x % 2 = 0 by omega]; rfl
      · rw [if_neg c1, if_neg c2, show x % 2 = 0 by omega, show y % 2 = 0 by omega]; rfl
    rw [hl, Bool.eq_iff_iff]
    simp only [Bool.or_eq_true, Bool.and_eq_true, decide_eq_true_eq]
    omega
theorem rep_of (w : Nat) : rep w 48 = ofL 0 w := by
  unfold ofL; rw [← rep_tab]; exact tab_congr fun i _ => by unfold ofBit; simp
theorem b13 (x y w : Nat) : binL 13 (ofL x w) (ofL y w) = ofL (x + y) w := by
  rw [bin_same 13 _ _ (by rw [len_ofL, len_ofL]) (by decide)]; unfold oneW totL; rw [ofL_kno, ofL_kno]; exact sum_of x y 0 w
theorem b14 (x y w : Nat) (hy : y < 2 ^ w) : binL 14 (ofL x w) (ofL y w) = ofL (x + (2 ^ w - 1 - y) + 1) w := by
  rw [bin_same 14 _ _ (by rw [len_ofL, len_ofL]) (by decide)]; unfold oneW difL; rw [ofL_kno, ofL_kno, turn_of y w hy]; exact sum_of _ _ 1 w
theorem b23 (x y w : Nat) : binL 23 (ofL x w) (ofL y w) = ofL (x &&& y) w := by rw [bin_and _ _ (by rw [len_ofL, len_ofL]), and_of]
theorem b25 (x y w : Nat) : binL 25 (ofL x w) (ofL y w) = ofL (x ||| y) w := by rw [bin_or _ _ (by rw [len_ofL, len_ofL]), or_of]
theorem b24 (x y w : Nat) : binL 24 (ofL x w) (ofL y w) = ofL (x ^^^ y) w := by
  rw [bin_same 24 _ _ (by rw [len_ofL, len_ofL]) (by decide), ← xor_of]; rfl
theorem u9 (x w : Nat) (hx : x < 2 ^ w) : unaL 9 (ofL x w) = ofL (2 ^ w - 1 - x + 1) w := by
  have e : unaL 9 (ofL x w) = difL (rep w 48) (ofL x w) := by unfold unaL; rw [len_ofL]; simp
  rw [e]; unfold difL; rw [kno_rep _ _ rfl, ofL_kno, turn_of x w hx, rep_of]
  have := sum_of 0 (2 ^ w - 1 - x) 1 w
  rw [Nat.zero_add] at this; exact this
theorem wide_of (x y w : Nat) : wide (ofL x w) (ofL y w) = w := by unfold wide; rw [len_ofL, len_ofL]; omega
theorem ltF_of (x y w : Nat) (hx : x < 2 ^ w) (hy : y < 2 ^ w) : ltF (ofL x w) (ofL y w) = decide (x < y) := by
  unfold ltF; rw [wide_of, fit_self _ _ (len_ofL _ _).symm, fit_self _ _ (len_ofL _ _).symm, less_of x y w hx hy]
theorem eqF_of (x y w : Nat) (hx : x < 2 ^ w) (hy : y < 2 ^ w) : eqF (ofL x w) (ofL y w) = decide (x = y) := by
  unfold eqF; rw [wide_of, fit_self _ _ (len_ofL _ _).symm, fit_self _ _ (len_ofL _ _).symm, ofL_eq x y w hx hy]
end Lg
