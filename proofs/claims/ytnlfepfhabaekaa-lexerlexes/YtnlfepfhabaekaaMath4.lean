/- Plain facts, more: numbers as vectors, and back. -/
import Derived.Test.YtnlfepfhabaekaaMath3
namespace Lg
def ofBit (n w i : Nat) : UInt8 := if n / 2 ^ (w - 1 - i) % 2 = 1 then 49 else 48
def ofL (n w : Nat) : List UInt8 := tab w (ofBit n w)
theorem tab_succ (w : Nat) (f : Nat → UInt8) : tab (w + 1) f = tab w f ++ [f w] := by simp [tab, List.range_succ]
theorem ofL_succ (n w : Nat) : ofL n (w + 1) = ofL (n / 2) w ++ [if n % 2 = 1 then 49 else 48] := by
  unfold ofL
  rw [tab_succ]
  congr 1
  · refine tab_congr fun i hi => ?_
    unfold ofBit
    rw [show w + 1 - 1 - i = (w - 1 - i) + 1 by omega, Nat.pow_succ, Nat.mul_comm, Nat.div_div_eq_div_mul]
  · unfold ofBit
    rw [show w + 1 - 1 - w = 0 by omega]; simp
theorem num_ofL (n w : Nat) : num (ofL n w) = n % 2 ^ w := by
  induction w generalizing n with
  | zero => simp [ofL, tab, num, Nat.mod_one]
  | succ w ih =>
    rw [ofL_succ, num_snoc, ih, Nat.pow_succ]
    have e : plc (if n % 2 = 1 then 49 else 48) = n % 2 := by
      by_cases h : n % 2 = 1
      · rw [if_pos h, h]; rfl
      · rw [if_neg h, show n % 2 = 0 by omega]; rfl
    rw [e]
    have h1 : n = 2 * (n / 2) + n % 2 := by omega
    have h2 : n / 2 = 2 ^ w * (n / 2 / 2 ^ w) + n / 2 % 2 ^ w := (Nat.div_add_mod _ _).symm
    have hp : 0 < 2 ^ w := Nat.two_pow_pos w
    have hl : n / 2 % 2 ^ w < 2 ^ w := Nat.mod_lt _ hp
    have h3 : n = 2 ^ w * 2 * (n / 2 / 2 ^ w) + (2 * (n / 2 % 2 ^ w) + n % 2) := by
      have : 2 ^ w * 2 * (n / 2 / 2 ^ w) = 2 * (2 ^ w * (n / 2 / 2 ^ w)) := by rw [Nat.mul_comm (2 ^ w) 2, Nat.mul_assoc]
      omega
    have h4 : 2 * (n / 2 % 2 ^ w) + n % 2 < 2 ^ w * 2 := by omega
    have h5 : n % (2 ^ w * 2) = (2 ^ w * 2 * (n / 2 / 2 ^ w) + (2 * (n / 2 % 2 ^ w) + n % 2)) % (2 ^ w * 2) := congrArg (· % (2 ^ w * 2)) h3
    rw [Nat.mul_add_mod, Nat.mod_eq_of_lt h4] at h5
    exact h5.symm
theorem tab_all {w : Nat} {f : Nat → UInt8} {p : UInt8 → Bool} (h : ∀ i, i < w → p (f i) = true) : (tab w f).all p = true := by
  simp only [tab, List.all_map, List.all_eq_true, List.mem_range, Function.comp]; exact h
theorem ofBit_kno (n w i : Nat) : knoB (ofBit n w i) = true := by unfold ofBit; split <;> rfl
theorem kno_bit {c : UInt8} (h : knoB c = true) : bitB c = true := by simp [knoB] at h; rcases h with rfl | rfl <;> rfl
theorem ofL_kno (n w : Nat) : kno (ofL n w) = true := tab_all fun i _ => ofBit_kno n w i
theorem vec_mk {l : List UInt8} (h1 : 1 ≤ l.length) (h2 : l.length ≤ 256) (h : l.all bitB = true) : vec l = true := by unfold vec; rw [h]; simp [h1, h2]
theorem ofL_vec (n w : Nat) (h1 : 1 ≤ w) (h2 : w ≤ 256) : vec (ofL n w) = true :=
  vec_mk (by unfold ofL; rw [len_tab]; exact h1) (by unfold ofL; rw [len_tab]; exact h2) (tab_all fun i _ => kno_bit (ofBit_kno n w i))
theorem len_ofL (n w : Nat) : (ofL n w).length = w := len_tab _ _

def numA (l : List UInt8) : Int := if vec l then (if kno l then (if num l ≤ 2147483647 then (num l : Int) else 0) else 0) else 0
def numE (l : List UInt8) : Int := if vec l then (if kno l then (if num l ≤ 2147483647 then 0 else 61) else 60) else 10
theorem num_bad {l : List UInt8} (h : vec l = false) : numA l = 0 ∧ numE l = 10 := by unfold numA numE; rw [h]; exact ⟨rfl, rfl⟩
theorem num_unk {l : List UInt8} (h : vec l = true) (h2 : kno l = false) : numA l = 0 ∧ numE l = 60 := by unfold numA numE; rw [h, h2]; exact ⟨rfl, rfl⟩
theorem num_big {l : List UInt8} (h : vec l = true) (h2 : kno l = true) (h3 : ¬ num l ≤ 2147483647) : numA l = 0 ∧ numE l = 61 := by unfold numA numE; rw [h, h2]; simp only [h3]; exact ⟨rfl, rfl⟩
theorem num_ok {l : List UInt8} (h : vec l = true) (h2 : kno l = true) (h3 : num l ≤ 2147483647) : numA l = (num l : Int) ∧ numE l = 0 := by unfold numA numE; rw [h, h2]; simp only [h3]; exact ⟨rfl, rfl⟩

def parL (l : List UInt8) (hi lo : Nat) : List UInt8 := (l.drop (l.length - 1 - hi)).take (hi - lo + 1)
def parA (l : List UInt8) (hi lo : Int) : List UInt8 := if vec l then (if lo < 0 ∨ hi < lo ∨ (l.length : Int) ≤ hi then [] else parL l hi.toNat lo.toNat) else []
def parE (l : List UInt8) (hi lo : Int) : Int := if vec l then (if lo < 0 ∨ hi < lo ∨ (l.length : Int) ≤ hi then 1 else 0) else 10
def bitAt (l : List UInt8) (n : Nat) : UInt8 := l.getD (l.length - 1 - n) 0
def btL (l a : List UInt8) : List UInt8 := if kno a then (if num a < l.length then [bitAt l (num a)] else [120]) else [120]
def btA (l a : List UInt8) : List UInt8 := if vec l && vec a then btL l a else []
def btE (l a : List UInt8) : Int := if vec l && vec a then 0 else 10
def ofA (n w : Int) : List UInt8 := if n < 0 ∨ w < 1 ∨ 256 < w then [] else ofL n.toNat w.toNat
def ofE (n w : Int) : Int := if n < 0 ∨ w < 1 ∨ 256 < w then 1 else 0
end Lg
