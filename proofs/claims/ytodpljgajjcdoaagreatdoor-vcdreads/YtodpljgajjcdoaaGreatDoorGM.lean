/- Plain texts, joined: what each part says stands ahead of it. -/
import Derived.WalkKit
import Derived.WalkLawsBesides
/-
  Plain facts on bytes and vectors of four values: no program in sight. What each function of layer 1 comes to, as a function on lists of bytes.
-/
namespace Lg
/-- the place of a byte in a table: 0, 1, 2 or 3 -/
def plc (c : UInt8) : Nat := if c = 48 then 0 else if c = 49 then 1 else if c = 120 then 2 else 3
def bitB (c : UInt8) : Bool := c == 48 || c == 49 || c == 120 || c == 122
def knoB (c : UInt8) : Bool := c == 48 || c == 49
def vec (l : List UInt8) : Bool := decide (1 ≤ l.length ∧ l.length ≤ 256) && l.all bitB
def kno (l : List UInt8) : Bool := l.all knoB
/-- & | ^ of two bits, ~ of one, and what two bits agree on -/
def band (a b : UInt8) : UInt8 := if a = 48 ∨ b = 48 then 48 else if a = 49 ∧ b = 49 then 49 else 120
def bnot (a : UInt8) : UInt8 := if a = 48 then 49 else if a = 49 then 48 else 120
def bor (a b : UInt8) : UInt8 := if a = 49 ∨ b = 49 then 49 else if a = 48 ∧ b = 48 then 48 else 120
def bxor (a b : UInt8) : UInt8 := if (a = 48 ∧ b = 49) ∨ (a = 49 ∧ b = 48) then 49 else if (a = 48 ∧ b = 48) ∨ (a = 49 ∧ b = 49) then 48 else 120
def bagr (a b : UInt8) : UInt8 := if a = 48 ∧ b = 48 then 48 else if a = 49 ∧ b = 49 then 49 else 120
/-- a vector's truth -/
def fold (f : UInt8 → UInt8 → UInt8) (c : UInt8) (l : List UInt8) : UInt8 := l.foldl f c
def tru (l : List UInt8) : UInt8 := fold bor 48 l
/-- the number of bits, as one goes along -/
def numStep (n : Nat) (c : UInt8) : Nat := 2 * n + plc c
def num (l : List UInt8) : Nat := l.foldl numStep 0
/-- a number's bits, so many -/
def bits : Nat → Nat → List UInt8
  | _, 0 => []
  | n, w + 1 => bits (n / 2) w ++ [if n % 2 = 1 then 49 else 48]
def fit (l : List UInt8) (w : Nat) : List UInt8 := if w ≤ l.length then l.drop (l.length - w) else List.replicate (w - l.length) 48 ++ l

theorem plc_lt (c : UInt8) : plc c < 4 := by unfold plc; split <;> (try split) <;> (try split) <;> omega
theorem plc_known {c : UInt8} (h : knoB c = true) : plc c ≤ 1 := by
  simp [knoB] at h
  rcases h with rfl | rfl <;> decide

/-- the bytes of a string -/
def L (s : ByteArray) : List UInt8 := s.data.toList
theorem len_L (s : ByteArray) : (L s).length = s.size := by simp [L]
theorem L_get (s : ByteArray) (k : Nat) (h : k < s.size) : (L s)[k]'(by simpa [L] using h) = s[k] := rfl
theorem at_getD (s : ByteArray) (k : Nat) (h : k < s.size) : s[k] = (L s).getD k 0 := by
  rw [← L_get s k h, List.getD_eq_getElem?_getD, List.getElem?_eq_getElem]; rfl
theorem take_snoc (s : ByteArray) (k : Nat) (h : k < s.size) : (L s).take (k + 1) = (L s).take k ++ [s[k]] := by
  rw [List.take_succ_eq_append_getElem (by simpa [L] using h)]; rfl
theorem take_all (s : ByteArray) (k : Nat) (h : s.size ≤ k) : (L s).take k = L s := List.take_of_length_le (by simpa [L] using h)
theorem knoB_iff (c : UInt8) : knoB c = decide ((c.toNat : Int) = 48 ∨ (c.toNat : Int) = 49) := by
  rw [Bool.eq_iff_iff]; simp [knoB, ← UInt8.toNat_inj]; omega
theorem bitB_iff (c : UInt8) : bitB c = decide ((c.toNat : Int) = 48 ∨ (c.toNat : Int) = 49 ∨ (c.toNat : Int) = 120 ∨ (c.toNat : Int) = 122) := by
  rw [Bool.eq_iff_iff]; simp [bitB, ← UInt8.toNat_inj]; omega
theorem all_false {p : UInt8 → Bool} (s : ByteArray) (k : Nat) (h : k < s.size) (hp : p s[k] = false) : (L s).all p = false := by
  rw [List.all_eq_false]; exact ⟨s[k], by rw [← L_get s k h]; exact List.getElem_mem _, by simp [hp]⟩
theorem all_snoc {p : UInt8 → Bool} (s : ByteArray) (k : Nat) (h : k < s.size) (hk : ((L s).take k).all p = true) (hp : p s[k] = true) : ((L s).take (k + 1)).all p = true := by
  rw [take_snoc s k h, List.all_append, hk]; simp [hp]

/-- a string of these bytes -/
def S (l : List UInt8) : ByteArray := ⟨l.toArray⟩
theorem L_S (l : List UInt8) : L (S l) = l := by simp [L, S]
theorem S_L (s : ByteArray) : S (L s) = s := by simp [L, S]
theorem size_S (l : List UInt8) : (S l).size = l.length := by rw [← len_L, L_S]
def rep (n : Nat) (c : UInt8) : List UInt8 := List.replicate n c
theorem len_rep (n : Nat) (c : UInt8) : (rep n c).length = n := by simp [rep]
theorem L_inj {s t : ByteArray} (h : L s = L t) : s = t := by rw [← S_L s, h, S_L]
def tab (n : Nat) (f : Nat → UInt8) : List UInt8 := (List.range n).map f
theorem len_tab (n : Nat) (f : Nat → UInt8) : (tab n f).length = n := by simp [tab]
theorem tab_congr {n : Nat} {f g : Nat → UInt8} (h : ∀ i, i < n → f i = g i) : tab n f = tab n g := List.map_congr_left (by intro i hi; exact h i (by simpa using hi))
/-- the place of a byte, of its number -/
def pn (n : Int) : Nat := if n = 48 then 0 else if n = 49 then 1 else if n = 120 then 2 else 3
theorem pn_plc (c : UInt8) : pn (c.toNat : Int) = plc c := by
  have e1 : ((c.toNat : Int) = 48) = (c = 48) := by rw [← UInt8.toNat_inj]; simp; omega
  have e2 : ((c.toNat : Int) = 49) = (c = 49) := by rw [← UInt8.toNat_inj]; simp; omega
  have e3 : ((c.toNat : Int) = 120) = (c = 120) := by rw [← UInt8.toNat_inj]; simp; omega
  unfold pn plc; simp only [e1, e2, e3]
theorem pn_lt (n : Int) : pn n < 4 := by unfold pn; split <;> (try split) <;> (try split) <;> omega
/-- the bytes from one place to another -/
theorem L_extract (s : ByteArray) (i j : Nat) : L (s.extract i j) = ((L s).drop i).take (j - i) := by
  simp [L, ByteArray.data_extract, Array.toList_extract, List.extract_eq_take_drop]
theorem L_append (s t : ByteArray) : L (s ++ t) = L s ++ L t := by simp [L]
end Lg

/- Plain facts, more: sums, numbers, shifts. -/
namespace Lg
def bw (f : UInt8 → UInt8 → UInt8) (a b : List UInt8) (i : Nat) : UInt8 := f (a.getD i 0) (b.getD i 0)
def bitwise (f : UInt8 → UInt8 → UInt8) (a b : List UInt8) : List UInt8 := tab a.length (bw f a b)
def turnL (a : List UInt8) : List UInt8 := tab a.length fun i => bnot (a.getD i 0)
/-- what is carried behind so many bits, from the lowest on -/
def car (a b : List UInt8) (c : Nat) : Nat → Nat
  | 0 => c
  | k + 1 => (car a b c k + plc (a.getD (a.length - 1 - k) 0) + plc (b.getD (a.length - 1 - k) 0)) / 2
def sumN (a b : List UInt8) (c i : Nat) : Nat := car a b c (a.length - 1 - i) + plc (a.getD i 0) + plc (b.getD i 0)
def sumBit (a b : List UInt8) (c i : Nat) : UInt8 := if sumN a b c i % 2 = 1 then 49 else 48
def sumL (a b : List UInt8) (c : Nat) : List UInt8 := tab a.length (sumBit a b c)
def totL (a b : List UInt8) : List UInt8 := if kno a && kno b then sumL a b 0 else rep a.length 120
def difL (a b : List UInt8) : List UInt8 := if kno a && kno b then sumL a (turnL b) 1 else rep a.length 120
def upToN (l : List UInt8) (m : Nat) : Nat := if m ≤ num l then m else num l

theorem bxor_one (x : UInt8) : bxor x 49 = bnot x := by
  unfold bxor bnot; by_cases h : x = 48 <;> by_cases h2 : x = 49 <;> simp_all
theorem rep_getD (n : Nat) (c : UInt8) (i : Nat) (h : i < n) : (rep n c).getD i 0 = c := by simp [rep, h]
theorem turn_xor (s : List UInt8) (n : Nat) (hn : n = s.length) : bitwise bxor s (rep n 49) = turnL s :=
  tab_congr fun i hi => by unfold bw; rw [rep_getD _ _ _ (by omega), bxor_one]
theorem car_le (a b : List UInt8) (c k : Nat) (hc : c ≤ 6) : car a b c k ≤ 6 := by
  induction k with
  | zero => exact hc
  | succ k ih =>
    have := plc_lt (a.getD (a.length - 1 - k) 0); have := plc_lt (b.getD (a.length - 1 - k) 0)
    simp only [car]; omega
theorem num_snoc (l : List UInt8) (c : UInt8) : num (l ++ [c]) = 2 * num l + plc c := by simp [num, numStep]
theorem num_take_le (l : List UInt8) (k : Nat) : num (l.take k) ≤ num l := by
  have h : ∀ (r : List UInt8) (n : Nat), n ≤ r.foldl numStep n := by
    intro r
    induction r with
    | nil => intro n; exact Nat.le_refl _
    | cons c r ih => intro n; exact Nat.le_trans (by unfold numStep; omega) (ih _)
  have e : num l = (l.drop k).foldl numStep (num (l.take k)) := by
    unfold num; rw [← List.foldl_append, List.take_append_drop]
  rw [e]; exact h _ _
end Lg

/- Plain facts, more: what the operators come to. -/
namespace Lg
open Go
def holdL (op : Int) (a b : List UInt8) : Bool :=
  if op = 17 then Op.bytesLess a b else if op = 18 then (Op.bytesLess a b || a == b) else if op = 19 then (!Op.bytesLess a b && !(a == b)) else if op = 20 then !Op.bytesLess a b else if op = 21 then a == b else !(a == b)
def bitL (b : Bool) : List UInt8 := if b then [49] else [48]
def cmpL (op : Int) (a b : List UInt8) : List UInt8 := if kno a && kno b then bitL (holdL op a b) else [120]
def shlL (a : List UInt8) (n : Nat) : List UInt8 := a.drop n ++ rep n 48
def shrL (a : List UInt8) (n : Nat) : List UInt8 := rep n 48 ++ a.take (a.length - n)
def shiftL (op : Int) (a b : List UInt8) : List UInt8 := if kno b then (if op = 15 then shlL a (upToN b a.length) else shrL a (upToN b a.length)) else rep a.length 120
def oneW (op : Int) (a b : List UInt8) : List UInt8 :=
  if op = 13 then totL a b else if op = 14 then difL a b else if op = 23 then bitwise band a b else if op = 25 then bitwise bor a b else if op = 24 then bitwise bxor a b else cmpL op a b
def binL (op : Int) (a b : List UInt8) : List UInt8 :=
  if op = 15 ∨ op = 16 then shiftL op a b else if op = 26 then [band (tru a) (tru b)] else if op = 27 then [bor (tru a) (tru b)] else oneW op (fit a (max a.length b.length)) (fit b (max a.length b.length))
def unaL (op : Int) (a : List UInt8) : List UInt8 :=
  if op = 7 then turnL a else if op = 9 then difL (rep a.length 48) a else if op = 10 then [fold band 49 a] else if op = 11 then [tru a] else if op = 12 then [fold bxor 48 a] else [bnot (tru a)]
def condL (c a b : List UInt8) : List UInt8 := if tru c = 49 then a else if tru c = 48 then b else bitwise bagr a b
theorem len_fit (l : List UInt8) (w : Nat) : (fit l w).length = w := by unfold fit; split <;> simp <;> omega
theorem vec_len {l : List UInt8} (h : vec l = true) : 1 ≤ l.length ∧ l.length ≤ 256 := by simp [vec] at h; exact h.1
theorem len_turnL (a : List UInt8) : (turnL a).length = a.length := len_tab _ _
end Lg

/- Plain facts, more: numbers as vectors, and back. -/
namespace Lg
def ofBit (n w i : Nat) : UInt8 := if n / 2 ^ (w - 1 - i) % 2 = 1 then 49 else 48
def ofL (n w : Nat) : List UInt8 := tab w (ofBit n w)
theorem tab_succ (w : Nat) (f : Nat → UInt8) : tab (w + 1) f = tab w f ++ [f w] := by simp [tab, List.range_succ]
theorem ofL_succ (n w : Nat) : ofL n (w + 1) = ofL (n / 2) w ++ [if n % 2 = 1 then 49 else 48] := by
  unfold ofL
  rw [tab_succ]
  congr 1
  · refine tab_congr fun i hi => ?_
    unfold ofBit
    rw [show w + 1 - 1 - i = (w - 1 - i) + 1 by omega, Nat.pow_succ, Nat.mul_comm, Nat.div_div_eq_div_mul]
  · unfold ofBit
    rw [show w + 1 - 1 - w = 0 by omega]; simp
theorem num_ofL (n w : Nat) : num (ofL n w) = n % 2 ^ w := by
  induction w generalizing n with
  | zero => simp [ofL, tab, num, Nat.mod_one]
  | succ w ih =>
    rw [ofL_succ, num_snoc, ih, Nat.pow_succ]
    have e : plc (if n % 2 = 1 then 49 else 48) = n % 2 := by
      by_cases h : n % 2 = 1
      · rw [if_pos h, h]; rfl
      · rw [if_neg h, show n % 2 = 0 by omega]; rfl
    rw [e]
    have h1 : n = 2 * (n / 2) + n % 2 := by omega
    have h2 : n / 2 = 2 ^ w * (n / 2 / 2 ^ w) + n / 2 % 2 ^ w := (Nat.div_add_mod _ _).symm
    have hp : 0 < 2 ^ w := Nat.two_pow_pos w
    have hl : n / 2 % 2 ^ w < 2 ^ w := Nat.mod_lt _ hp
    have h3 : n = 2 ^ w * 2 * (n / 2 / 2 ^ w) + (2 * (n / 2 % 2 ^ w) + n % 2) := by
      have : 2 ^ w * 2 * (n / 2 / 2 ^ w) = 2 * (2 ^ w * (n / 2 / 2 ^ w)) := by rw [Nat.mul_comm (2 ^ w) 2, Nat.mul_assoc]
      omega
    have h4 : 2 * (n / 2 % 2 ^ w) + n % 2 < 2 ^ w * 2 := by omega
    have h5 : n % (2 ^ w * 2) = (2 ^ w * 2 * (n / 2 / 2 ^ w) + (2 * (n / 2 % 2 ^ w) + n % 2)) % (2 ^ w * 2) := congrArg (· % (2 ^ w * 2)) h3
    rw [Nat.mul_add_mod, Nat.mod_eq_of_lt h4] at h5
    exact h5.symm
theorem tab_all {w : Nat} {f : Nat → UInt8} {p : UInt8 → Bool} (h : ∀ i, i < w → p (f i) = true) : (tab w f).all p = true := by
  simp only [tab, List.all_map, List.all_eq_true, List.mem_range, Function.comp]; exact h
theorem ofBit_kno (n w i : Nat) : knoB (ofBit n w i) = true := by unfold ofBit; split <;> rfl
theorem kno_bit {c : UInt8} (h : knoB c = true) : bitB c = true := by simp [knoB] at h; rcases h with rfl | rfl <;> rfl
theorem ofL_kno (n w : Nat) : kno (ofL n w) = true := tab_all fun i _ => ofBit_kno n w i
theorem vec_mk {l : List UInt8} (h1 : 1 ≤ l.length) (h2 : l.length ≤ 256) (h : l.all bitB = true) : vec l = true := by unfold vec; rw [h]; simp [h1, h2]
theorem ofL_vec (n w : Nat) (h1 : 1 ≤ w) (h2 : w ≤ 256) : vec (ofL n w) = true :=
  vec_mk (by unfold ofL; rw [len_tab]; exact h1) (by unfold ofL; rw [len_tab]; exact h2) (tab_all fun i _ => kno_bit (ofBit_kno n w i))
theorem len_ofL (n w : Nat) : (ofL n w).length = w := len_tab _ _

def numA (l : List UInt8) : Int := if vec l then (if kno l then (if num l ≤ 2147483647 then (num l : Int) else 0) else 0) else 0
def numE (l : List UInt8) : Int := if vec l then (if kno l then (if num l ≤ 2147483647 then 0 else 61) else 60) else 10
theorem num_bad {l : List UInt8} (h : vec l = false) : numA l = 0 ∧ numE l = 10 := by unfold numA numE; rw [h]; exact ⟨rfl, rfl⟩
theorem num_unk {l : List UInt8} (h : vec l = true) (h2 : kno l = false) : numA l = 0 ∧ numE l = 60 := by unfold numA numE; rw [h, h2]; exact ⟨rfl, rfl⟩
theorem num_big {l : List UInt8} (h : vec l = true) (h2 : kno l = true) (h3 : ¬ num l ≤ 2147483647) : numA l = 0 ∧ numE l = 61 := by unfold numA numE; rw [h, h2]; simp only [h3]; exact ⟨rfl, rfl⟩
theorem num_ok {l : List UInt8} (h : vec l = true) (h2 : kno l = true) (h3 : num l ≤ 2147483647) : numA l = (num l : Int) ∧ numE l = 0 := by unfold numA numE; rw [h, h2]; simp only [h3]; exact ⟨rfl, rfl⟩

def parL (l : List UInt8) (hi lo : Nat) : List UInt8 := (l.drop (l.length - 1 - hi)).take (hi - lo + 1)
def parA (l : List UInt8) (hi lo : Int) : List UInt8 := if vec l then (if lo < 0 ∨ hi < lo ∨ (l.length : Int) ≤ hi then [] else parL l hi.toNat lo.toNat) else []
def parE (l : List UInt8) (hi lo : Int) : Int := if vec l then (if lo < 0 ∨ hi < lo ∨ (l.length : Int) ≤ hi then 1 else 0) else 10
def bitAt (l : List UInt8) (n : Nat) : UInt8 := l.getD (l.length - 1 - n) 0
def btL (l a : List UInt8) : List UInt8 := if kno a then (if num a < l.length then [bitAt l (num a)] else [120]) else [120]
def btA (l a : List UInt8) : List UInt8 := if vec l && vec a then btL l a else []
def btE (l a : List UInt8) : Int := if vec l && vec a then 0 else 10
def ofA (n w : Int) : List UInt8 := if n < 0 ∨ w < 1 ∨ 256 < w then [] else ofL n.toNat w.toNat
def ofE (n w : Int) : Int := if n < 0 ∨ w < 1 ∨ 256 < w then 1 else 0
end Lg
