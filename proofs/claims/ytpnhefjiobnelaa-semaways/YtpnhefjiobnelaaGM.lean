/- Plain texts, joined: what each part says stands ahead of it. -/
import Derived.WalkKit
import Derived.WalkLawsBesides
import Derived.Lib.Bytealg
import Derived.Lib.Index
import Derived.Lib.Strings
/-
  Plain facts on bytes and vectors of four values: no program in sight. What each function of layer 1 comes to, as a function on lists of bytes.
-/
namespace Lg
/-- the place of a byte in a table: 0, 1, 2 or 3 -/
def plc (c : UInt8) : Nat := if c = 48 then 0 else if c = 49 then 1 else if c = 120 then 2 else 3
def bitB (c : UInt8) : Bool := c == 48 || c == 49 || c == 120 || c == 122
def knoB (c : UInt8) : Bool := c == 48 || c == 49
def vec (l : List UInt8) : Bool := decide (1 ≤ l.length ∧ l.length ≤ 256) && l.all bitB
def kno (l : List UInt8) : Bool := l.all knoB
/-- & | ^ of two bits, ~ of one, and what two bits agree on -/
def band (a b : UInt8) : UInt8 := if a = 48 ∨ b = 48 then 48 else if a = 49 ∧ b = 49 then 49 else 120
def bnot (a : UInt8) : UInt8 := if a = 48 then 49 else if a = 49 then 48 else 120
def bor (a b : UInt8) : UInt8 := if a = 49 ∨ b = 49 then 49 else if a = 48 ∧ b = 48 then 48 else 120
def bxor (a b : UInt8) : UInt8 := if (a = 48 ∧ b = 49) ∨ (a = 49 ∧ b = 48) then 49 else if (a = 48 ∧ b = 48) ∨ (a = 49 ∧ b = 49) then 48 else 120
def bagr (a b : UInt8) : UInt8 := if a = 48 ∧ b = 48 then 48 else if a = 49 ∧ b = 49 then 49 else 120
/-- a vector's truth -/
def fold (f : UInt8 → UInt8 → UInt8) (c : UInt8) (l : List UInt8) : UInt8 := l.foldl f c
def tru (l : List UInt8) : UInt8 := fold bor 48 l
/-- the number of bits, as one goes along -/
def numStep (n : Nat) (c : UInt8) : Nat := 2 * n + plc c
def num (l : List UInt8) : Nat := l.foldl numStep 0
/-- a number's bits, so many -/
def bits : Nat → Nat → List UInt8
  | _, 0 => []
  | n, w + 1 => bits (n / 2) w ++ [if n % 2 = 1 then 49 else 48]
def fit (l : List UInt8) (w : Nat) : List UInt8 := if w ≤ l.length then l.drop (l.length - w) else List.replicate (w - l.length) 48 ++ l

theorem plc_lt (c : UInt8) : plc c < 4 := by unfold plc; split <;> (try split) <;> (try split) <;> omega
theorem plc_known {c : UInt8} (h : knoB c = true) : plc c ≤ 1 := by
  simp [knoB] at h
  rcases h with rfl | rfl <;> decide

/-- the bytes of a string -/
def L (s : ByteArray) : List UInt8 := s.data.toList
theorem len_L (s : ByteArray) : (L s).length = s.size := by simp [L]
theorem L_get (s : ByteArray) (k : Nat) (h : k < s.size) : (L s)[k]'(by simpa [L] using h) = s[k] := rfl
theorem at_getD (s : ByteArray) (k : Nat) (h : k < s.size) : s[k] = (L s).getD k 0 := by
  rw [← L_get s k h, List.getD_eq_getElem?_getD, List.getElem?_eq_getElem]; rfl
theorem take_snoc (s : ByteArray) (k : Nat) (h : k < s.size) : (L s).take (k + 1) = (L s).take k ++ [s[k]] := by
  rw [List.take_succ_eq_append_getElem (by simpa [L] using h)]; rfl
theorem take_all (s : ByteArray) (k : Nat) (h : s.size ≤ k) : (L s).take k = L s := List.take_of_length_le (by simpa [L] using h)
theorem knoB_iff (c : UInt8) : knoB c = decide ((c.toNat : Int) = 48 ∨ (c.toNat : Int) = 49) := by
  rw [Bool.eq_iff_iff]; simp [knoB, ← UInt8.toNat_inj]; omega
theorem bitB_iff (c : UInt8) : bitB c = decide ((c.toNat : Int) = 48 ∨ (c.toNat : Int) = 49 ∨ (c.toNat : Int) = 120 ∨ (c.toNat : Int) = 122) := by
  rw [Bool.eq_iff_iff]; simp [bitB, ← UInt8.toNat_inj]; omega
theorem all_false {p : UInt8 → Bool} (s : ByteArray) (k : Nat) (h : k < s.size) (hp : p s[k] = false) : (L s).all p = false := by
  rw [List.all_eq_false]; exact ⟨s[k], by rw [← L_get s k h]; exact List.getElem_mem _, by simp [hp]⟩
theorem all_snoc {p : UInt8 → Bool} (s : ByteArray) (k : Nat) (h : k < s.size) (hk : ((L s).take k).all p = true) (hp : p s[k] = true) : ((L s).take (k + 1)).all p = true := by
  rw [take_snoc s k h, List.all_append, hk]; simp [hp]

/-- a string of these bytes -/
def S (l : List UInt8) : ByteArray := ⟨l.toArray⟩
theorem L_S (l : List UInt8) : L (S l) = l := by simp [L, S]
theorem S_L (s : ByteArray) : S (L s) = s := by simp [L, S]
theorem size_S (l : List UInt8) : (S l).size = l.length := by rw [← len_L, L_S]
def rep (n : Nat) (c : UInt8) : List UInt8 := List.replicate n c
theorem len_rep (n : Nat) (c : UInt8) : (rep n c).length = n := by simp [rep]
theorem L_inj {s t : ByteArray} (h : L s = L t) : s = t := by rw [← S_L s, h, S_L]
def tab (n : Nat) (f : Nat → UInt8) : List UInt8 := (List.range n).map f
theorem len_tab (n : Nat) (f : Nat → UInt8) : (tab n f).length = n := by simp [tab]
theorem tab_congr {n : Nat} {f g : Nat → UInt8} (h : ∀ i, i < n → f i = g i) : tab n f = tab n g := List.map_congr_left (by intro i hi; exact h i (by simpa using hi))
/-- the place of a byte, of its number -/
def pn (n : Int) : Nat := if n = 48 then 0 else if n = 49 then 1 else if n = 120 then 2 else 3
theorem pn_plc (c : UInt8) : pn (c.toNat : Int) = plc c := by
  have e1 : ((c.toNat : Int) = 48) = (c = 48) := by rw [← UInt8.toNat_inj]; simp; omega
  have e2 : ((c.toNat : Int) = 49) = (c = 49) := by rw [← UInt8.toNat_inj]; simp; omega
  have e3 : ((c.toNat : Int) = 120) = (c = 120) := by rw [← UInt8.toNat_inj]; simp; omega
  unfold pn plc; simp only [e1, e2, e3]
theorem pn_lt (n : Int) : pn n < 4 := by unfold pn; split <;> (try split) <;> (try split) <;> omega
/-- the bytes from one place to another -/
theorem L_extract (s : ByteArray) (i j : Nat) : L (s.extract i j) = ((L s).drop i).take (j - i) := by
  simp [L, ByteArray.data_extract, Array.toList_extract, List.extract_eq_take_drop]
theorem L_append (s t : ByteArray) : L (s ++ t) = L s ++ L t := by simp [L]
end Lg

/- Plain facts, more: sums, numbers, shifts. -/
namespace Lg
def bw (f : UInt8 → UInt8 → UInt8) (a b : List UInt8) (i : Nat) : UInt8 := f (a.getD i 0) (b.getD i 0)
def bitwise (f : UInt8 → UInt8 → UInt8) (a b : List UInt8) : List UInt8 := tab a.length (bw f a b)
def turnL (a : List UInt8) : List UInt8 := tab a.length fun i => bnot (a.getD i 0)
/-- what is carried behind so many bits, from the lowest on -/
def car (a b : List UInt8) (c : Nat) : Nat → Nat
  | 0 => c
  | k + 1 => (car a b c k + plc (a.getD (a.length - 1 - k) 0) + plc (b.getD (a.length - 1 - k) 0)) / 2
def sumN (a b : List UInt8) (c i : Nat) : Nat := car a b c (a.length - 1 - i) + plc (a.getD i 0) + plc (b.getD i 0)
def sumBit (a b : List UInt8) (c i : Nat) : UInt8 := if sumN a b c i % 2 = 1 then 49 else 48
def sumL (a b : List UInt8) (c : Nat) : List UInt8 := tab a.length (sumBit a b c)
def totL (a b : List UInt8) : List UInt8 := if kno a && kno b then sumL a b 0 else rep a.length 120
def difL (a b : List UInt8) : List UInt8 := if kno a && kno b then sumL a (turnL b) 1 else rep a.length 120
def upToN (l : List UInt8) (m : Nat) : Nat := if m ≤ num l then m else num l

theorem bxor_one (x : UInt8) : bxor x 49 = bnot x := by
  unfold bxor bnot; by_cases h : x = 48 <;> by_cases h2 : x = 49 <;> simp_all
theorem rep_getD (n : Nat) (c : UInt8) (i : Nat) (h : i < n) : (rep n c).getD i 0 = c := by simp [rep, h]
theorem turn_xor (s : List UInt8) (n : Nat) (hn : n = s.length) : bitwise bxor s (rep n 49) = turnL s :=
  tab_congr fun i hi => by unfold bw; rw [rep_getD _ _ _ (by omega), bxor_one]
theorem car_le (a b : List UInt8) (c k : Nat) (hc : c ≤ 6) : car a b c k ≤ 6 := by
  induction k with
  | zero => exact hc
  | succ k ih =>
    have := plc_lt (a.getD (a.length - 1 - k) 0); have := plc_lt (b.getD (a.length - 1 - k) 0)
    simp only [car]; omega
theorem num_snoc (l : List UInt8) (c : UInt8) : num (l ++ [c]) = 2 * num l + plc c := by simp [num, numStep]
theorem num_take_le (l : List UInt8) (k : Nat) : num (l.take k) ≤ num l := by
  have h : ∀ (r : List UInt8) (n : Nat), n ≤ r.foldl numStep n := by
    intro r
    induction r with
    | nil => intro n; exact Nat.le_refl _
    | cons c r ih => intro n; exact Nat.le_trans (by unfold numStep; omega) (ih _)
  have e : num l = (l.drop k).foldl numStep (num (l.take k)) := by
    unfold num; rw [← List.foldl_append, List.take_append_drop]
  rw [e]; exact h _ _
end Lg

/- Plain facts, more: what the operators come to. -/
namespace Lg
open Go
def holdL (op : Int) (a b : List UInt8) : Bool :=
  if op = 17 then Op.bytesLess a b else if op = 18 then (Op.bytesLess a b || a == b) else if op = 19 then (!Op.bytesLess a b && !(a == b)) else if op = 20 then !Op.bytesLess a b else if op = 21 then a == b else !(a == b)
def bitL (b : Bool) : List UInt8 := if b then [49] else [48]
def cmpL (op : Int) (a b : List UInt8) : List UInt8 := if kno a && kno b then bitL (holdL op a b) else [120]
def shlL (a : List UInt8) (n : Nat) : List UInt8 := a.drop n ++ rep n 48
def shrL (a : List UInt8) (n : Nat) : List UInt8 := rep n 48 ++ a.take (a.length - n)
def shiftL (op : Int) (a b : List UInt8) : List UInt8 := if kno b then (if op = 15 then shlL a (upToN b a.length) else shrL a (upToN b a.length)) else rep a.length 120
def oneW (op : Int) (a b : List UInt8) : List UInt8 :=
  if op = 13 then totL a b else if op = 14 then difL a b else if op = 23 then bitwise band a b else if op = 25 then bitwise bor a b else if op = 24 then bitwise bxor a b else cmpL op a b
def binL (op : Int) (a b : List UInt8) : List UInt8 :=
  if op = 15 ∨ op = 16 then shiftL op a b else if op = 26 then [band (tru a) (tru b)] else if op = 27 then [bor (tru a) (tru b)] else oneW op (fit a (max a.length b.length)) (fit b (max a.length b.length))
def unaL (op : Int) (a : List UInt8) : List UInt8 :=
  if op = 7 then turnL a else if op = 9 then difL (rep a.length 48) a else if op = 10 then [fold band 49 a] else if op = 11 then [tru a] else if op = 12 then [fold bxor 48 a] else [bnot (tru a)]
def condL (c a b : List UInt8) : List UInt8 := if tru c = 49 then a else if tru c = 48 then b else bitwise bagr a b
theorem len_fit (l : List UInt8) (w : Nat) : (fit l w).length = w := by unfold fit; split <;> simp <;> omega
theorem vec_len {l : List UInt8} (h : vec l = true) : 1 ≤ l.length ∧ l.length ≤ 256 := by simp [vec] at h; exact h.1
theorem len_turnL (a : List UInt8) : (turnL a).length = a.length := len_tab _ _
end Lg

/- Plain facts, more: numbers as vectors, and back. -/
namespace Lg
def ofBit (n w i : Nat) : UInt8 := if n / 2 ^ (w - 1 - i) % 2 = 1 then 49 else 48
def ofL (n w : Nat) : List UInt8 := tab w (ofBit n w)
theorem tab_succ (w : Nat) (f : Nat → UInt8) : tab (w + 1) f = tab w f ++ [f w] := by simp [tab, List.range_succ]
theorem ofL_succ (n w : Nat) : ofL n (w + 1) = ofL (n / 2) w ++ [if n % 2 = 1 then 49 else 48] := by
  unfold ofL
  rw [tab_succ]
  congr 1
  · refine tab_congr fun i hi => ?_
    unfold ofBit
    rw [show w + 1 - 1 - i = (w - 1 - i) + 1 by omega, Nat.pow_succ, Nat.mul_comm, Nat.div_div_eq_div_mul]
  · unfold ofBit
    rw [show w + 1 - 1 - w = 0 by omega]; simp
theorem num_ofL (n w : Nat) : num (ofL n w) = n % 2 ^ w := by
  induction w generalizing n with
  | zero => simp [ofL, tab, num, Nat.mod_one]
  | succ w ih =>
    rw [ofL_succ, num_snoc, ih, Nat.pow_succ]
    have e : plc (if n % 2 = 1 then 49 else 48) = n % 2 := by
      by_cases h : n % 2 = 1
      · rw [if_pos h, h]; rfl
      · rw [if_neg h, show n % 2 = 0 by omega]; rfl
    rw [e]
    have h1 : n = 2 * (n / 2) + n % 2 := by omega
    have h2 : n / 2 = 2 ^ w * (n / 2 / 2 ^ w) + n / 2 % 2 ^ w := (Nat.div_add_mod _ _).symm
    have hp : 0 < 2 ^ w := Nat.two_pow_pos w
    have hl : n / 2 % 2 ^ w < 2 ^ w := Nat.mod_lt _ hp
    have h3 : n = 2 ^ w * 2 * (n / 2 / 2 ^ w) + (2 * (n / 2 % 2 ^ w) + n % 2) := by
      have : 2 ^ w * 2 * (n / 2 / 2 ^ w) = 2 * (2 ^ w * (n / 2 / 2 ^ w)) := by rw [Nat.mul_comm (2 ^ w) 2, Nat.mul_assoc]
      omega
    have h4 : 2 * (n / 2 % 2 ^ w) + n % 2 < 2 ^ w * 2 := by omega
    have h5 : n % (2 ^ w * 2) = (2 ^ w * 2 * (n / 2 / 2 ^ w) + (2 * (n / 2 % 2 ^ w) + n % 2)) % (2 ^ w * 2) := congrArg (· % (2 ^ w * 2)) h3
    rw [Nat.mul_add_mod, Nat.mod_eq_of_lt h4] at h5
    exact h5.symm
theorem tab_all {w : Nat} {f : Nat → UInt8} {p : UInt8 → Bool} (h : ∀ i, i < w → p (f i) = true) : (tab w f).all p = true := by
  simp only [tab, List.all_map, List.all_eq_true, List.mem_range, Function.comp]; exact h
theorem ofBit_kno (n w i : Nat) : knoB (ofBit n w i) = true := by unfold ofBit; split <;> rfl
theorem kno_bit {c : UInt8} (h : knoB c = true) : bitB c = true := by simp [knoB] at h; rcases h with rfl | rfl <;> rfl
theorem ofL_kno (n w : Nat) : kno (ofL n w) = true := tab_all fun i _ => ofBit_kno n w i
theorem vec_mk {l : List UInt8} (h1 : 1 ≤ l.length) (h2 : l.length ≤ 256) (h : l.all bitB = true) : vec l = true := by unfold vec; rw [h]; simp [h1, h2]
theorem ofL_vec (n w : Nat) (h1 : 1 ≤ w) (h2 : w ≤ 256) : vec (ofL n w) = true :=
  vec_mk (by unfold ofL; rw [len_tab]; exact h1) (by unfold ofL; rw [len_tab]; exact h2) (tab_all fun i _ => kno_bit (ofBit_kno n w i))
theorem len_ofL (n w : Nat) : (ofL n w).length = w := len_tab _ _

def numA (l : List UInt8) : Int := if vec l then (if kno l then (if num l ≤ 2147483647 then (num l : Int) else 0) else 0) else 0
def numE (l : List UInt8) : Int := if vec l then (if kno l then (if num l ≤ 2147483647 then 0 else 61) else 60) else 10
theorem num_bad {l : List UInt8} (h : vec l = false) : numA l = 0 ∧ numE l = 10 := by unfold numA numE; rw [h]; exact ⟨rfl, rfl⟩
theorem num_unk {l : List UInt8} (h : vec l = true) (h2 : kno l = false) : numA l = 0 ∧ numE l = 60 := by unfold numA numE; rw [h, h2]; exact ⟨rfl, rfl⟩
theorem num_big {l : List UInt8} (h : vec l = true) (h2 : kno l = true) (h3 : ¬ num l ≤ 2147483647) : numA l = 0 ∧ numE l = 61 := by unfold numA numE; rw [h, h2]; simp only [h3]; exact ⟨rfl, rfl⟩
theorem num_ok {l : List UInt8} (h : vec l = true) (h2 : kno l = true) (h3 : num l ≤ 2147483647) : numA l = (num l : Int) ∧ numE l = 0 := by unfold numA numE; rw [h, h2]; simp only [h3]; exact ⟨rfl, rfl⟩

def parL (l : List UInt8) (hi lo : Nat) : List UInt8 := (l.drop (l.length - 1 - hi)).take (hi - lo + 1)
def parA (l : List UInt8) (hi lo : Int) : List UInt8 := if vec l then (if lo < 0 ∨ hi < lo ∨ (l.length : Int) ≤ hi then [] else parL l hi.toNat lo.toNat) else []
def parE (l : List UInt8) (hi lo : Int) : Int := if vec l then (if lo < 0 ∨ hi < lo ∨ (l.length : Int) ≤ hi then 1 else 0) else 10
def bitAt (l : List UInt8) (n : Nat) : UInt8 := l.getD (l.length - 1 - n) 0
def btL (l a : List UInt8) : List UInt8 := if kno a then (if num a < l.length then [bitAt l (num a)] else [120]) else [120]
def btA (l a : List UInt8) : List UInt8 := if vec l && vec a then btL l a else []
def btE (l a : List UInt8) : Int := if vec l && vec a then 0 else 10
def ofA (n w : Int) : List UInt8 := if n < 0 ∨ w < 1 ∨ 256 < w then [] else ofL n.toNat w.toNat
def ofE (n w : Int) : Int := if n < 0 ∨ w < 1 ∨ 256 < w then 1 else 0
end Lg

/- Plain facts, more: the reference's ways. -/
namespace Lg
theorem rep_tab (n : Nat) (c : UInt8) : tab n (fun _ => c) = rep n c := by
  unfold tab rep; rw [List.map_const', List.length_range]
theorem bor_one (y : UInt8) : bor 49 y = 49 := by simp [bor]
theorem fold_one (l : List UInt8) : fold bor 49 l = 49 := by
  unfold fold
  induction l with
  | nil => rfl
  | cons c l ih => rw [List.foldl_cons, bor_one]; exact ih
theorem fold_snoc (f : UInt8 → UInt8 → UInt8) (c : UInt8) (l : List UInt8) (x : UInt8) : fold f c (l ++ [x]) = f (fold f c l) x := by simp [fold]
theorem fold_app (f : UInt8 → UInt8 → UInt8) (c : UInt8) (l r : List UInt8) : fold f c (l ++ r) = fold f (fold f c l) r := by simp [fold]
theorem tru_hit (s : ByteArray) (k : Nat) (h : k < s.size) (hc : s[k] = 49) : tru (L s) = 49 := by
  unfold tru
  rw [← List.take_append_drop (k + 1) (L s), fold_app, take_snoc s k h, fold_snoc, hc]
  have : bor (fold bor 48 ((L s).take k)) 49 = 49 := by simp [bor]
  rw [this]; exact fold_one _
theorem tru_step (s : ByteArray) (k : Nat) (h : k < s.size) (t : UInt8) (ht : t = tru ((L s).take k)) : tru ((L s).take (k + 1)) = bor t s[k] := by
  unfold tru at *; rw [take_snoc s k h, fold_snoc, ← ht]
theorem bor_nought (t c : UInt8) (ht : t = 48 ∨ t = 120) (hc : c = 48) : bor t c = t := by
  rcases ht with rfl | rfl <;> subst hc <;> rfl
theorem bor_other (t c : UInt8) (ht : t = 48 ∨ t = 120) (h1 : c ≠ 49) (h2 : c ≠ 48) : bor t c = 120 := by
  rcases ht with rfl | rfl <;> simp [bor, h1, h2]
theorem of_int {c : UInt8} {n : Nat} (h : (c.toNat : Int) = (n : Int)) (hn : n < 256) : c = UInt8.ofNat n := by
  rw [← UInt8.toNat_inj, UInt8.toNat_ofNat']; omega
theorem i48 (c : UInt8) : (c.toNat : Int) = 48 ↔ c = 48 := by rw [← UInt8.toNat_inj]; simp; omega
theorem i49 (c : UInt8) : (c.toNat : Int) = 49 ↔ c = 49 := by rw [← UInt8.toNat_inj]; simp; omega
theorem i120 (c : UInt8) : (c.toNat : Int) = 120 ↔ c = 120 := by rw [← UInt8.toNat_inj]; simp; omega
theorem i122 (c : UInt8) : (c.toNat : Int) = 122 ↔ c = 122 := by rw [← UInt8.toNat_inj]; simp; omega
theorem iEq (c d : UInt8) : (c.toNat : Int) = (d.toNat : Int) ↔ c = d := by rw [← UInt8.toNat_inj]; omega
def bz (b : UInt8) : UInt8 := if b = 122 then 120 else b
/-- the reference's ^ : of bits that may be it is the table's -/
def rxor (a b : UInt8) : UInt8 := if bz a = 120 ∨ bz b = 120 then 120 else if bz a = bz b then 48 else 49
theorem rxor_bits (a b : UInt8) (ha : bitB a = true) (hb : bitB b = true) : rxor a b = bxor a b := by
  simp only [bitB, Bool.or_eq_true, beq_iff_eq] at ha hb
  rcases ha with ((rfl | rfl) | rfl) | rfl <;> rcases hb with ((rfl | rfl) | rfl) | rfl <;> rfl
theorem bor_not (a b : UInt8) : bnot (band (bnot a) (bnot b)) = bor a b := by
  unfold bor band bnot
  by_cases h1 : a = 48 <;> by_cases h2 : a = 49 <;> by_cases h3 : b = 48 <;> by_cases h4 : b = 49 <;> simp_all
end Lg

/- Layer 2, plain: bytes' kinds, whole numbers, digits, numbers' texts. No program in sight. -/
namespace Lg
def hd0 (l : List UInt8) : UInt8 := l.headD 0
def digB (c : UInt8) : Bool := decide (48 ≤ c.toNat ∧ c.toNat ≤ 57)
def letB (c : UInt8) : Bool := decide ((97 ≤ c.toNat ∧ c.toNat ≤ 122) ∨ (65 ≤ c.toNat ∧ c.toNat ≤ 90) ∨ c.toNat = 95)
def worB (c : UInt8) : Bool := letB c || digB c
/-- the number of decimal digits, going on from n, up to m -/
def whF (m : Nat) : Nat → List UInt8 → Option Nat
  | n, [] => some n
  | n, c :: l => if digB c then (if 10 * n + (c.toNat - 48) ≤ m then whF m (10 * n + (c.toNat - 48)) l else none) else none
def whV (m : Nat) (l : List UInt8) : Option Nat := if l = [] then none else whF m 0 l
def oN (o : Option Nat) : Nat := o.getD 0
def oB {α : Type} (o : Option α) : Bool := o.isSome
def oS (o : Option (List UInt8)) : List UInt8 := o.getD []
/-- the number of a hexadecimal digit -/
def hexV (c : UInt8) : Option Nat :=
  if digB c then some (c.toNat - 48) else if 97 ≤ c.toNat ∧ c.toNat ≤ 102 then some (c.toNat - 87) else if 65 ≤ c.toNat ∧ c.toNat ≤ 70 then some (c.toNat - 55) else none
/-- the bits of a digit of k bits -/
def dgt (k : Nat) (c : UInt8) : Option (List UInt8) :=
  if c = 120 ∨ c = 122 then some (rep k c) else match hexV c with
    | none => none
    | some n => if n < 2 ^ k then some (ofL n k) else none
/-- the bits of digits -/
def cat (k : Nat) : List UInt8 → Option (List UInt8)
  | [] => some []
  | c :: l => match dgt k c with
    | none => none
    | some b => (cat k l).map (b ++ ·)
/-- bits cut to a width, or with what stands ahead -/
def strV (b : List UInt8) (w : Nat) : Option (List UInt8) :=
  if b = [] then none else if w ≤ b.length then some (b.drop (b.length - w)) else
  if hd0 b = 120 ∨ hd0 b = 122 then some (rep (w - b.length) (hd0 b) ++ b) else some (fit b w)
def groV (k w : Nat) (l : List UInt8) : Option (List UInt8) := (cat k l).bind fun _ => (cat k (l.drop (l.length - w))).bind fun b => strV b w
def basV (c : UInt8) (l : List UInt8) (w : Nat) : Option (List UInt8) :=
  if c = 98 then groV 1 w l else if c = 104 then groV 4 w l else if c = 100 then (whV 2147483647 l).map (ofL · w) else none
/-- ahead of the first mark, and behind it -/
def pre39 (l : List UInt8) : List UInt8 := l.takeWhile (· != 39)
def pos39 (l : List UInt8) : List UInt8 := (l.dropWhile (· != 39)).drop 1
def has39 (l : List UInt8) : Bool := l.any (· == 39)
/-- a number's text: the vector, and whether it is plain -/
def numV (l : List UInt8) : Option (List UInt8 × Bool) :=
  match whV 4294967295 (pre39 l) with
  | none => none
  | some n => if 1 < (pre39 l).length ∧ hd0 (pre39 l) = 48 then none else
    if has39 l = false then some (ofL n 32, true) else
    if n < 1 ∨ 256 < n then none else match pos39 l with
      | [] => none
      | c :: r => (basV c r n).map (·, false)
theorem whF_le {m n x : Nat} {l : List UInt8} (hn : n ≤ m) (h : whF m n l = some x) : x ≤ m := by
  induction l generalizing n with
  | nil => simp [whF] at h; omega
  | cons c l ih =>
    simp only [whF] at h
    split at h
    · split at h
      · exact ih (by assumption) h
      · cases h
    · cases h
theorem whV_le {m x : Nat} {l : List UInt8} (h : whV m l = some x) : x ≤ m := by
  unfold whV at h; split at h
  · cases h
  · exact whF_le (Nat.zero_le _) h
theorem dgt_len {k : Nat} {c : UInt8} {b : List UInt8} (h : dgt k c = some b) : b.length = k := by
  unfold dgt at h
  split at h
  · cases h; exact len_rep _ _
  · split at h
    · cases h
    · split at h
      · cases h; exact len_ofL _ _
      · cases h
theorem dgt_bits {k : Nat} {c : UInt8} {b : List UInt8} (h : dgt k c = some b) : b.all bitB = true := by
  unfold dgt at h
  split at h
  · cases h
    rename_i h1
    unfold rep
    rw [List.all_replicate]
    rcases h1 with rfl | rfl <;> simp [bitB]
  · split at h
    · cases h
    · split at h
      · cases h; exact tab_all fun i _ => kno_bit (ofBit_kno _ _ _)
      · cases h
theorem cat_append (k : Nat) (a b : List UInt8) : cat k (a ++ b) = (cat k a).bind fun x => (cat k b).map (x ++ ·) := by
  induction a with
  | nil => cases h : cat k b <;> simp [cat, h]
  | cons c a ih =>
    simp only [cat, List.cons_append]
    cases dgt k c with
    | none => rfl
    | some d => rw [ih]; cases cat k a <;> cases cat k b <;> simp
theorem cat_len {k : Nat} {l b : List UInt8} (h : cat k l = some b) : b.length = k * l.length := by
  induction l generalizing b with
  | nil => simp [cat] at h; subst h; simp
  | cons c l ih =>
    simp only [cat] at h
    cases hd : dgt k c with
    | none => rw [hd] at h; cases h
    | some d =>
      rw [hd] at h
      cases hc : cat k l with
      | none => rw [hc] at h; cases h
      | some x =>
        rw [hc] at h
        simp at h
        rw [← h, List.length_append, dgt_len hd, ih hc, List.length_cons, Nat.mul_succ]; omega
theorem cat_bits {k : Nat} {l b : List UInt8} (h : cat k l = some b) : b.all bitB = true := by
  induction l generalizing b with
  | nil => simp [cat] at h; subst h; simp
  | cons c l ih =>
    simp only [cat] at h
    cases hd : dgt k c with
    | none => rw [hd] at h; cases h
    | some d =>
      rw [hd] at h
      cases hc : cat k l with
      | none => rw [hc] at h; cases h
      | some x =>
        rw [hc] at h
        simp at h
        rw [← h, List.all_append, dgt_bits hd, ih hc]; rfl
theorem cat_tail {k : Nat} {a b x : List UInt8} (h : cat k (a ++ b) = some x) : ∃ y, cat k b = some y := by
  rw [cat_append] at h
  cases ha : cat k a with
  | none => rw [ha] at h; cases h
  | some p =>
    cases hb : cat k b with
    | none => rw [ha, hb] at h; cases h
    | some q => exact ⟨q, rfl⟩
theorem cat_drop {k n : Nat} {l x : List UInt8} (h : cat k l = some x) : ∃ y, cat k (l.drop n) = some y := by
  rw [← List.take_append_drop n l] at h; exact cat_tail h
end Lg

/- Layer 2, plain: what stands at a place of a source, and its tokens. No program in sight. -/
namespace Lg
open Go
def signs : List UInt8 := [40, 41, 91, 93, 123, 125, 44, 59, 58, 46, 35, 64, 63, 43, 45, 126, 33, 38, 124, 94, 61, 60, 62, 42]
def sgnB (c : UInt8) : Bool := signs.contains c
def kinds (c : UInt8) : Int :=
  if letB c then 7 else if digB c then 6 else if c = 39 then 4 else if c = 10 then 24 else if c = 9 ∨ c = 13 ∨ c = 32 then 8 else if c = 47 then 32 else if c = 96 then 64 else if sgnB c then 128 else 0
def numB (c : UInt8) : Bool := worB c || c == 39
def twos : List (List UInt8) := [[38, 38], [124, 124], [61, 61], [33, 61], [60, 61], [62, 61], [60, 60], [62, 62]]
def sgW (l : List UInt8) : Nat := if twos.contains (l.take 2) then 2 else 1
/-- how many bytes the comment has; 0: there is none that ends -/
def comW (l : List UInt8) : Nat :=
  if Lib.hasPrefix l [47, 47] then (if 0 ≤ Lib.indexByte l 10 then (Lib.indexByte l 10).toNat else l.length)
  else if Lib.hasPrefix l [47, 42] then (if 0 ≤ Lib.index (l.drop 2) [42, 47] then 2 + (Lib.index (l.drop 2) [42, 47]).toNat + 2 else 0) else 0
def wordL (l : List UInt8) : List UInt8 := l.takeWhile worB
def numbL (l : List UInt8) : List UInt8 := l.takeWhile numB
structure Tok where
  k : Int
  x : List UInt8
  p : Nat
/-- what stands at a place: so many bytes to be passed by; a token of so many bytes; why it may not be -/
inductive Stp where
  | skip (n : Nat)
  | tk (k : Int) (x : List UInt8) (n : Nat)
  | err (e : Int)
def defW : List UInt8 := [100, 101, 102, 105, 110, 101]
def tickP (r : List UInt8) : Stp :=
  if r = [] ∨ letB (hd0 r) = false then .err 20 else if 64 < (wordL r).length then .err 4 else .tk 4 (wordL r) (1 + (wordL r).length)
def stp (df : Bool) (c : UInt8) (r : List UInt8) : Stp :=
  if c = 10 ∧ df = true then .tk 5 [] 1
  else if kinds c = 24 ∨ kinds c = 8 then .skip 1
  else if c = 47 then (if comW (c :: r) = 0 then .err 20 else .skip (comW (c :: r)))
  else if c = 96 then tickP r
  else if letB c then (if 64 < (wordL (c :: r)).length then .err 4 else .tk 1 (wordL (c :: r)) (wordL (c :: r)).length)
  else if digB c then (match numV (numbL (c :: r)) with | none => .err 21 | some _ => .tk 2 (numbL (c :: r)) (numbL (c :: r)).length)
  else if sgnB c then .tk 3 ((c :: r).take (sgW (c :: r))) (sgW (c :: r))
  else .err 20
/-- whether a define stands ahead in the line, behind a token -/
def dfN (df : Bool) (k : Int) (x : List UInt8) : Bool := if k = 5 then false else df || (k == 4 && x == defW)
inductive Res where
  | toks (l : List Tok)
  | bad (p : Nat) (e : Int)
def Res.cons (t : Tok) : Res → Res
  | .toks l => .toks (t :: l)
  | r => r
/-- the tokens from a place on, so many being there -/
def lexG (p : Nat) (l : List UInt8) (df : Bool) (n : Nat) : Res :=
  match l with
  | [] => .toks []
  | c :: r => match stp df c r with
    | .skip m => lexG (p + m) (r.drop (m - 1)) df n
    | .err e => .bad p e
    | .tk k x m => if n = 16384 then .bad p 2 else Res.cons ⟨k, x, p⟩ (lexG (p + m) (r.drop (m - 1)) (dfN df k x) (n + 1))
  termination_by l.length
  decreasing_by
    all_goals simp
    all_goals omega
def Res.app (a : List Tok) : Res → Res
  | .toks l => .toks (a ++ l)
  | r => r
/-- all tokens, the end last; or why not -/
def lexL (l : List UInt8) : Res := if 65536 < l.length then .bad 0 4 else match lexG 0 l false 0 with
  | .toks t => .toks (t ++ [⟨6, [], l.length⟩])
  | r => r
theorem kcases (c : UInt8) : (letB c = true ∧ kinds c = 7) ∨ (letB c = false ∧ digB c = true ∧ kinds c = 6) ∨ (c = 39 ∧ kinds c = 4) ∨ (c = 10 ∧ kinds c = 24) ∨ ((c = 9 ∨ c = 13 ∨ c = 32) ∧ kinds c = 8) ∨ (c = 47 ∧ kinds c = 32) ∨ (c = 96 ∧ kinds c = 64) ∨
    (letB c = false ∧ digB c = false ∧ sgnB c = true ∧ kinds c = 128) ∨ (letB c = false ∧ digB c = false ∧ sgnB c = false ∧ c ≠ 39 ∧ c ≠ 10 ∧ c ≠ 9 ∧ c ≠ 13 ∧ c ≠ 32 ∧ c ≠ 47 ∧ c ≠ 96 ∧ kinds c = 0) := by
  unfold kinds
  by_cases h1 : letB c = true
  · left; exact ⟨h1, by rw [if_pos h1]⟩
  · have h1' : letB c = false := by simpa using h1
    rw [if_neg h1]
    by_cases h2 : digB c = true
    · right; left; exact ⟨h1', h2, by rw [if_pos h2]⟩
    · have h2' : digB c = false := by simpa using h2
      rw [if_neg h2]
      by_cases h3 : c = 39
      · right; right; left; exact ⟨h3, by rw [if_pos h3]⟩
      · rw [if_neg h3]
        by_cases h4 : c = 10
        · right; right; right; left; exact ⟨h4, by rw [if_pos h4]⟩
        · rw [if_neg h4]
          by_cases h5 : c = 9 ∨ c = 13 ∨ c = 32
          · right; right; right; right; left; exact ⟨h5, by rw [if_pos h5]⟩
          · rw [if_neg h5]
            by_cases h6 : c = 47
            · right; right; right; right; right; left; exact ⟨h6, by rw [if_pos h6]⟩
            · rw [if_neg h6]
              by_cases h7 : c = 96
              · right; right; right; right; right; right; left; exact ⟨h7, by rw [if_pos h7]⟩
              · rw [if_neg h7]
                by_cases h8 : sgnB c = true
                · right; right; right; right; right; right; right; left; exact ⟨h1', h2', h8, by rw [if_pos h8]⟩
                · have h8' : sgnB c = false := by simpa using h8
                  right; right; right; right; right; right; right; right
                  exact ⟨h1', h2', h8', h3, h4, fun e => h5 (Or.inl e), fun e => h5 (Or.inr (Or.inl e)), fun e => h5 (Or.inr (Or.inr e)), h6, h7, by rw [if_neg h8]⟩
theorem worB_kinds (c : UInt8) : (worB c = true ∧ (kinds c = 7 ∨ kinds c = 6)) ∨ (worB c = false ∧ (kinds c = 4 ∨ kinds c = 24 ∨ kinds c = 8 ∨ kinds c = 32 ∨ kinds c = 64 ∨ kinds c = 128 ∨ kinds c = 0)) := by
  rcases kcases c with h | h | h | h | h | h | h | h | h
  · left; exact ⟨by unfold worB; rw [h.1]; rfl, Or.inl h.2⟩
  · left; exact ⟨by unfold worB; rw [h.1, h.2.1]; rfl, Or.inr h.2.2⟩
  · right; obtain ⟨rfl, h⟩ := h; exact ⟨by decide, by simp [h]⟩
  · right; obtain ⟨rfl, h⟩ := h; exact ⟨by decide, by simp [h]⟩
  · right; obtain ⟨h0, h⟩ := h; exact ⟨by rcases h0 with rfl | rfl | rfl <;> decide, by simp [h]⟩
  · right; obtain ⟨rfl, h⟩ := h; exact ⟨by decide, by simp [h]⟩
  · right; obtain ⟨rfl, h⟩ := h; exact ⟨by decide, by simp [h]⟩
  · right; exact ⟨by unfold worB; rw [h.1, h.2.1]; rfl, by simp [h.2.2.2]⟩
  · right; exact ⟨by unfold worB; rw [h.1, h.2.1]; rfl, by simp [h.2.2.2.2.2.2.2.2.2.2]⟩
theorem numB_kinds (c : UInt8) : (numB c = true ∧ (kinds c = 7 ∨ kinds c = 6 ∨ kinds c = 4)) ∨ (numB c = false ∧ (kinds c = 24 ∨ kinds c = 8 ∨ kinds c = 32 ∨ kinds c = 64 ∨ kinds c = 128 ∨ kinds c = 0)) := by
  rcases kcases c with h | h | h | h | h | h | h | h | h
  · left; exact ⟨by unfold numB worB; rw [h.1]; rfl, Or.inl h.2⟩
  · left; exact ⟨by unfold numB worB; rw [h.1, h.2.1]; rfl, Or.inr (Or.inl h.2.2)⟩
  · left; obtain ⟨rfl, h⟩ := h; exact ⟨by decide, by simp [h]⟩
  · right; obtain ⟨rfl, h⟩ := h; exact ⟨by decide, by simp [h]⟩
  · right; obtain ⟨h0, h⟩ := h; exact ⟨by rcases h0 with rfl | rfl | rfl <;> decide, by simp [h]⟩
  · right; obtain ⟨rfl, h⟩ := h; exact ⟨by decide, by simp [h]⟩
  · right; obtain ⟨rfl, h⟩ := h; exact ⟨by decide, by simp [h]⟩
  · right
    have : c ≠ 39 := by rintro rfl; exact absurd h.2.2.1 (by decide)
    exact ⟨by unfold numB worB; rw [h.1, h.2.1]; simpa using this, by simp [h.2.2.2]⟩
  · right; exact ⟨by unfold numB worB; rw [h.1, h.2.1]; simpa using h.2.2.2.1, by simp [h.2.2.2.2.2.2.2.2.2.2]⟩
theorem tw_len (p : UInt8 → Bool) (l : List UInt8) : (l.takeWhile p).length ≤ l.length := (List.takeWhile_sublist p).length_le
end Lg

/- Layer 2, plain: how far steps go. -/
namespace Lg
open Go
theorem ixb_le (l : List UInt8) (c : UInt8) : Lib.indexByte l c < l.length ∨ Lib.indexByte l c = -1 := by
  induction l with
  | nil => right; rfl
  | cons b l ih =>
    simp only [Lib.indexByte]
    split
    · left; simp
    · split
      · right; rfl
      · rename_i h; simp at h; simp; omega
theorem idx_le (l : List UInt8) (a b : UInt8) : Lib.index l [a, b] + 2 ≤ l.length ∨ Lib.index l [a, b] = -1 := by
  induction l with
  | nil => right; rfl
  | cons c l ih =>
    simp only [Lib.index]
    split
    · rename_i h
      left
      match l, h with
      | [], h => simp [List.isPrefixOf] at h
      | d :: l, h => simp; omega
    · split
      · right; rfl
      · rename_i h; simp at h; simp; omega
theorem ixb_pos (l : List UInt8) (c : UInt8) (h : hd0 l ≠ c) (h2 : 0 ≤ Lib.indexByte l c) : 1 ≤ Lib.indexByte l c := by
  cases l with
  | nil => simp [Lib.indexByte] at h2
  | cons b l =>
    have h1 : (b == c) = false := by rw [beq_eq_false_iff_ne]; exact h
    have hge := Lib.indexByte_ge l c
    simp only [Lib.indexByte, h1] at h2 ⊢
    by_cases h3 : Lib.indexByte l c = -1
    · rw [h3] at h2; simp at h2
    · have h4 : (Lib.indexByte l c == -1) = false := by simpa using h3
      rw [h4]; simp; omega
theorem comW_le (l : List UInt8) : comW l ≤ l.length := by
  unfold comW
  split
  · split
    · have := ixb_le l 10; omega
    · omega
  · split
    · split
      · have := idx_le (l.drop 2) 42 47; rw [List.length_drop] at this; omega
      · omega
    · omega
theorem word_pos {c : UInt8} {r : List UInt8} (h : worB c = true) : 1 ≤ (wordL (c :: r)).length := by unfold wordL; rw [List.takeWhile_cons, h]; simp
theorem numb_pos {c : UInt8} {r : List UInt8} (h : numB c = true) : 1 ≤ (numbL (c :: r)).length := by unfold numbL; rw [List.takeWhile_cons, h]; simp
theorem word_le (l : List UInt8) : (wordL l).length ≤ l.length := tw_len _ _
theorem numb_le (l : List UInt8) : (numbL l).length ≤ l.length := tw_len _ _
theorem sgW_le {c : UInt8} {r : List UInt8} : 1 ≤ sgW (c :: r) ∧ sgW (c :: r) ≤ (c :: r).length := by
  unfold sgW
  split
  · rename_i h
    match r, h with
    | [], h => simp [twos] at h
    | d :: r, h => simp
  · simp
def stpN : Stp → Nat
  | .skip n => n
  | .tk _ _ n => n
  | .err _ => 1
theorem stp_pos (df : Bool) (c : UInt8) (r : List UInt8) : 1 ≤ stpN (stp df c r) ∧ stpN (stp df c r) ≤ (c :: r).length := by
  unfold stp
  split
  · simp [stpN]
  split
  · simp [stpN]
  split
  · split
    · simp [stpN]
    · rename_i h; have := comW_le (c :: r); simp only [stpN]; omega
  split
  · unfold tickP
    split
    · simp [stpN]
    split
    · simp [stpN]
    · have := word_le r; simp [stpN]; omega
  split
  · rename_i hl
    split
    · simp [stpN]
    · exact ⟨word_pos (by unfold worB; rw [hl]; rfl), word_le _⟩
  split
  · rename_i hd
    split
    · simp [stpN]
    · exact ⟨numb_pos (by unfold numB worB; rw [hd]; simp), numb_le _⟩
  split
  · exact sgW_le
  · simp [stpN]
theorem drop_step (df : Bool) (c : UInt8) (r : List UInt8) : r.drop (stpN (stp df c r) - 1) = (c :: r).drop (stpN (stp df c r)) := by
  have := (stp_pos df c r).1
  obtain ⟨m, hm⟩ : ∃ m, stpN (stp df c r) = m + 1 := ⟨stpN (stp df c r) - 1, by omega⟩
  rw [hm]; rfl
theorem app_cons (a : List Tok) (t : Tok) (x : Res) : Res.app a (Res.cons t x) = Res.app (a ++ [t]) x := by
  cases x with
  | toks l => simp [Res.app, Res.cons]
  | bad p e => rfl
theorem app_nil (x : Res) : Res.app [] x = x := by cases x <;> rfl
theorem lexG_nil (p : Nat) (df : Bool) (n : Nat) : lexG p [] df n = .toks [] := by rw [lexG]
theorem lexG_skip {p : Nat} {c : UInt8} {r : List UInt8} {df : Bool} {n m : Nat} (h : stp df c r = .skip m) : lexG p (c :: r) df n = lexG (p + m) ((c :: r).drop m) df n := by
  rw [lexG]
  have hd := drop_step df c r
  simp only [h, stpN] at hd ⊢
  rw [hd]
theorem lexG_err {p : Nat} {c : UInt8} {r : List UInt8} {df : Bool} {n : Nat} {e : Int} (h : stp df c r = .err e) : lexG p (c :: r) df n = .bad p e := by
  rw [lexG]; simp only [h]
theorem lexG_full {p : Nat} {c : UInt8} {r : List UInt8} {df : Bool} {n m : Nat} {k : Int} {x : List UInt8} (h : stp df c r = .tk k x m) (hn : n = 16384) : lexG p (c :: r) df n = .bad p 2 := by
  rw [lexG]; simp only [h]; rw [if_pos hn]
theorem lexG_tk {p : Nat} {c : UInt8} {r : List UInt8} {df : Bool} {n m : Nat} {k : Int} {x : List UInt8} (h : stp df c r = .tk k x m) (hn : n ≠ 16384) : lexG p (c :: r) df n = Res.cons ⟨k, x, p⟩ (lexG (p + m) ((c :: r).drop m) (dfN df k x) (n + 1)) := by
  rw [lexG]
  have hd := drop_step df c r
  simp only [h, stpN] at hd ⊢
  rw [if_neg hn, hd]
end Lg

/- Layer 2, plain: numbers that are written by their digits. -/
namespace Lg
open Go
set_option linter.unusedVariables false
set_option linter.unusedSimpArgs false
/-- a number's decimal digits; none of 0 -/
def decF (n : Nat) : List UInt8 := if h : n = 0 then [] else decF (n / 10) ++ [UInt8.ofNat (48 + n % 10)]
  termination_by n
  decreasing_by omega
def dec2 (n : Nat) : List UInt8 := if n = 0 then [48] else decF n
theorem decF_zero : decF 0 = [] := by rw [decF]; simp
theorem decF_pos {n : Nat} (h : n ≠ 0) : decF n = decF (n / 10) ++ [UInt8.ofNat (48 + n % 10)] := by rw [decF]; simp [h]
theorem dig_nat (k : Nat) (h : k < 10) : (UInt8.ofNat (48 + k)).toNat = 48 + k := by
  rw [UInt8.toNat_ofNat']; omega
theorem dig_is (k : Nat) (h : k < 10) : digB (UInt8.ofNat (48 + k)) = true := by unfold digB; rw [dig_nat k h]; simp; omega
theorem whF_app (m a : Nat) (l k : List UInt8) : whF m a (l ++ k) = (whF m a l).bind fun b => whF m b k := by
  induction l generalizing a with
  | nil => rfl
  | cons c l ih =>
    simp only [List.cons_append, whF]
    split
    · split
      · exact ih _
      · rfl
    · rfl
theorem decF_wh (m : Nat) : ∀ n, n ≤ m → whF m 0 (decF n) = some n := by
  intro n
  induction n using Nat.strongRecOn with
  | ind n ih =>
    intro hn
    by_cases h : n = 0
    · subst h; rw [decF_zero]; rfl
    · rw [decF_pos h, whF_app, ih (n / 10) (by omega) (by omega)]
      simp only [Option.bind_some, whF]
      rw [if_pos (dig_is _ (by omega)), dig_nat _ (by omega), if_pos (by omega)]
      congr 1; omega
theorem decF_ne {n : Nat} (h : n ≠ 0) : decF n ≠ [] := by rw [decF_pos h]; simp
theorem decF_digs : ∀ n, ∀ c ∈ decF n, digB c = true := by
  intro n
  induction n using Nat.strongRecOn with
  | ind n ih =>
    by_cases h : n = 0
    · subst h; rw [decF_zero]; simp
    · rw [decF_pos h]
      intro c hc
      rw [List.mem_append] at hc
      rcases hc with hc | hc
      · exact ih _ (by omega) c hc
      · rw [List.mem_singleton] at hc; subst hc; exact dig_is _ (by omega)
theorem hd0_app {a b : List UInt8} (h : a ≠ []) : hd0 (a ++ b) = hd0 a := by
  cases a with
  | nil => exact absurd rfl h
  | cons c a => rfl
theorem decF_hd : ∀ n, n ≠ 0 → hd0 (decF n) ≠ 48 := by
  intro n
  induction n using Nat.strongRecOn with
  | ind n ih =>
    intro h
    rw [decF_pos h]
    by_cases h2 : n / 10 = 0
    · rw [h2, decF_zero]
      show UInt8.ofNat (48 + n % 10) ≠ 48
      intro e
      have := congrArg UInt8.toNat e
      rw [dig_nat _ (by omega)] at this
      have h48 : (48 : UInt8).toNat = 48 := rfl
      omega
    · rw [hd0_app (decF_ne h2)]; exact ih _ (by omega) h2
theorem pre_dig {a r : List UInt8} (h : ∀ c ∈ a, digB c = true) : pre39 (a ++ 39 :: r) = a ∧ pos39 (a ++ 39 :: r) = r ∧ has39 (a ++ 39 :: r) = true := by
  induction a with
  | nil => exact ⟨rfl, rfl, rfl⟩
  | cons c a ih =>
    have hc : ¬ c = 39 := by rintro rfl; exact absurd (h 39 (by simp)) (by decide)
    obtain ⟨h1, h2, h3⟩ := ih (fun x hx => h x (by simp [hx]))
    have e1 : pre39 (c :: (a ++ 39 :: r)) = c :: pre39 (a ++ 39 :: r) := by simp [pre39, List.takeWhile_cons, hc]
    have e2 : pos39 (c :: (a ++ 39 :: r)) = pos39 (a ++ 39 :: r) := by simp [pos39, List.dropWhile_cons, hc]
    have e3 : has39 (c :: (a ++ 39 :: r)) = has39 (a ++ 39 :: r) := by
      have : (c == 39) = false := by simpa using hc
      simp [has39, this]
    refine ⟨?_, ?_, ?_⟩
    · show pre39 (c :: (a ++ 39 :: r)) = c :: a; rw [e1, h1]
    · show pos39 (c :: (a ++ 39 :: r)) = r; rw [e2, h2]
    · show has39 (c :: (a ++ 39 :: r)) = true; rw [e3, h3]
theorem pre_only {a : List UInt8} (h : ∀ c ∈ a, digB c = true) : pre39 a = a ∧ has39 a = false := by
  induction a with
  | nil => exact ⟨rfl, rfl⟩
  | cons c a ih =>
    have hc : ¬ c = 39 := by rintro rfl; exact absurd (h 39 (by simp)) (by decide)
    have hc2 : (c == 39) = false := by simpa using hc
    obtain ⟨h1, h2⟩ := ih (fun x hx => h x (by simp [hx]))
    exact ⟨by rw [show pre39 (c :: a) = c :: pre39 a by simp [pre39, List.takeWhile_cons, hc], h1], by rw [show has39 (c :: a) = has39 a by simp [has39, hc2], h2]⟩
theorem decF_whV {m n : Nat} (h : n ≠ 0) (hn : n ≤ m) : whV m (decF n) = some n := by unfold whV; rw [if_neg (decF_ne h)]; exact decF_wh m n hn
theorem numV_sized {w : Nat} (c : UInt8) (r : List UInt8) (h1 : 1 ≤ w) (h2 : w ≤ 256) : numV (decF w ++ 39 :: c :: r) = (basV c r w).map (·, false) := by
  obtain ⟨a, b, d⟩ := pre_dig (r := c :: r) (decF_digs w)
  have hw := decF_whV (m := 4294967295) (n := w) (by omega) (by omega)
  have hh := decF_hd w (by omega)
  unfold numV
  rw [a, b, d, hw]
  simp only [hh, and_false, if_false]
  rw [if_neg (by simp), if_neg (by omega)]
theorem dec2_digs (n : Nat) : ∀ c ∈ dec2 n, digB c = true := by
  unfold dec2; split
  · intro c hc; simp at hc; subst hc; decide
  · exact decF_digs n
theorem dec2_whV {m n : Nat} (hn : n ≤ m) : whV m (dec2 n) = some n := by
  unfold dec2; split
  · rename_i h; subst h; simp [whV, whF, digB]
  · rename_i h; exact decF_whV h hn
theorem numV_plain {n : Nat} (h : n ≤ 2147483647) : numV (dec2 n) = some (ofL n 32, true) := by
  obtain ⟨a, b⟩ := pre_only (dec2_digs n)
  have hw := dec2_whV (m := 4294967295) (n := n) (by omega)
  have hz : ¬ (1 < (dec2 n).length ∧ hd0 (dec2 n) = 48) := by
    unfold dec2; split
    · simp
    · rename_i h; exact fun e => decF_hd n h e.2
  unfold numV
  rw [a, b, hw]
  simp only [hz, if_false, if_true]
theorem numV_31 {n : Nat} (h : n ≤ 2147483647) : numV ([51, 49, 39, 100] ++ dec2 n) = some (ofL n 31, false) := by
  have e : [51, 49, 39, 100] ++ dec2 n = decF 31 ++ 39 :: 100 :: dec2 n := by
    have : decF 31 = [51, 49] := by rw [decF_pos (by decide), decF_pos (by decide), decF_zero]; rfl
    rw [this]; rfl
  rw [e, numV_sized 100 _ (by omega) (by omega)]
  show (Option.map (ofL · 31) (whV 2147483647 (dec2 n))).map (·, false) = _
  rw [dec2_whV h]; rfl
theorem dgt1 {c : UInt8} (h : bitB c = true) : dgt 1 c = some [c] := by
  simp [bitB] at h
  rcases h with ((rfl | rfl) | rfl) | rfl <;> rfl
theorem cat1 {l : List UInt8} (h : l.all bitB = true) : cat 1 l = some l := by
  induction l with
  | nil => rfl
  | cons c l ih =>
    simp only [List.all_cons, Bool.and_eq_true] at h
    simp only [cat]
    rw [dgt1 h.1, ih h.2]; rfl
theorem all_drop {l : List UInt8} {q : UInt8 → Bool} (n : Nat) (h : l.all q = true) : (l.drop n).all q = true := by
  rw [List.all_eq_true] at h ⊢
  exact fun x hx => h x (List.mem_of_mem_drop hx)
theorem gro1 {l : List UInt8} {w : Nat} (h : l.all bitB = true) : groV 1 w l = strV (l.drop (l.length - w)) w := by
  unfold groV
  rw [cat1 h]
  show (cat 1 (l.drop (l.length - w))).bind _ = _
  rw [cat1 (all_drop _ h)]; rfl
theorem numV_bits {v : List UInt8} (h : vec v = true) : numV (decF v.length ++ 39 :: 98 :: v) = some (v, false) := by
  have hl := vec_len h
  have hb : v.all bitB = true := by simp [vec] at h; simpa using h.2
  rw [numV_sized 98 v hl.1 hl.2]
  show (groV 1 v.length v).map (·, false) = _
  rw [gro1 hb, Nat.sub_self, List.drop_zero]
  unfold strV
  rw [if_neg (by intro e; rw [e] at hl; simp at hl), if_pos (Nat.le_refl _), Nat.sub_self, List.drop_zero]; rfl
theorem str_len {b : List UInt8} {w : Nat} {x : List UInt8} (h : strV b w = some x) : x.length = w := by
  unfold strV at h
  split at h
  · cases h
  split at h
  · injection h with h; rw [← h, List.length_drop]; omega
  split at h
  · injection h with h; rw [← h, List.length_append, len_rep]; omega
  · injection h with h; rw [← h, len_fit]
theorem hex_same {h b : List UInt8} {w : Nat} (h1 : 1 ≤ w) (hne : h ≠ []) (hc : cat 4 h = some b) : groV 4 w h = groV 1 w b ∧ ∃ x, groV 4 w h = some x ∧ x.length = w := by
  have hb := cat_bits hc
  have hl := cat_len hc
  have hpos : 0 < h.length := List.length_pos_iff.2 hne
  have key : ∀ d : List UInt8, w ≤ d.length → strV d w = some (d.drop (d.length - w)) := fun d hd => by
    unfold strV; rw [if_neg (by intro e; rw [e] at hd; simp at hd; omega), if_pos hd]
  have e4 : groV 4 w h = (cat 4 (h.drop (h.length - w))).bind fun c => strV c w := by unfold groV; rw [hc]; rfl
  have hsome : ∃ x, groV 1 w b = some x := by
    rw [gro1 hb]
    unfold strV
    have hbn : b.drop (b.length - w) ≠ [] := by intro e; have := congrArg List.length e; rw [List.length_drop] at this; simp at this; omega
    rw [if_neg hbn]
    split
    · exact ⟨_, rfl⟩
    split
    · exact ⟨_, rfl⟩
    · exact ⟨_, rfl⟩
  have heq : groV 4 w h = groV 1 w b := by
    rw [e4, gro1 hb]
    rcases Nat.lt_or_ge w h.length with hlt | hge
    · obtain ⟨c, hcc⟩ := cat_drop (n := h.length - w) hc
      have happ := cat_append 4 (h.take (h.length - w)) (h.drop (h.length - w))
      rw [List.take_append_drop, hc, hcc] at happ
      cases ha : cat 4 (h.take (h.length - w)) with
      | none => rw [ha] at happ; cases happ
      | some a =>
        rw [ha] at happ
        have hab : b = a ++ c := by injection happ
        have hal := cat_len ha
        have hcl := cat_len hcc
        rw [List.length_take] at hal
        rw [List.length_drop] at hcl
        rw [hcc]
        show strV c w = _
        have e9 : b.drop (b.length - w) = c.drop (c.length - w) := by
          rw [hab, List.length_append, List.drop_append, List.drop_of_length_le (l := a) (by omega), List.nil_append]; congr 1; omega
        rw [key c (by omega), key (b.drop (b.length - w)) (by rw [List.length_drop]; omega), List.length_drop, show b.length - (b.length - w) - w = 0 by omega, List.drop_zero, e9]
    · rw [show h.length - w = 0 by omega, List.drop_zero, hc]
      show strV b w = _
      rcases Nat.lt_or_ge w b.length with h3 | h3
      · rw [key b (by omega), key (b.drop (b.length - w)) (by rw [List.length_drop]; omega), List.length_drop, show b.length - (b.length - w) - w = 0 by omega, List.drop_zero]
      · rw [show b.length - w = 0 by omega, List.drop_zero]
  refine ⟨heq, ?_⟩
  obtain ⟨x, hx⟩ := hsome
  rw [heq]
  refine ⟨x, hx, ?_⟩
  rw [gro1 hb] at hx
  exact str_len hx
end Lg

/- Layer 2, plain: the reference's numbers are the program's. -/
namespace Lg
open Go
set_option linter.unusedVariables false
set_option linter.unusedSimpArgs false
def whI (m : Nat) (l : List UInt8) : Int := match whF m 0 l with | none => -1 | some n => (n : Int)
def decI (m : Nat) (b : Bool) (l : List UInt8) : Int := if l = [] ∨ (b = false ∧ (10 < l.length ∨ (1 < l.length ∧ hd0 l = 48))) then -1 else whI m l
theorem whI_none {m : Nat} {l : List UInt8} (h : whF m 0 l = none) : whI m l = -1 := by unfold whI; rw [h]
theorem whI_some {m n : Nat} {l : List UInt8} (h : whF m 0 l = some n) : whI m l = (n : Int) := by unfold whI; rw [h]
theorem wh_grow {m : Nat} : ∀ {a n : Nat} {l : List UInt8}, whF m a l = some n → a * 10 ^ l.length ≤ n := by
  intro a n l
  induction l generalizing a with
  | nil => intro h; simp [whF] at h; simp; omega
  | cons c l ih =>
    intro h
    simp only [whF] at h
    split at h
    · split at h
      · have := ih h
        rw [List.length_cons, Nat.pow_succ]
        have h2 : a * (10 ^ l.length * 10) = (10 * a) * 10 ^ l.length := by rw [Nat.mul_comm (10 ^ l.length) 10, ← Nat.mul_assoc, Nat.mul_comm a 10]
        rw [h2]
        exact Nat.le_trans (Nat.mul_le_mul_right _ (by omega)) this
      · cases h
    · cases h
theorem wh_up {m M : Nat} (hm : m ≤ M) : ∀ {a n : Nat} {l : List UInt8}, whF m a l = some n → whF M a l = some n := by
  intro a n l
  induction l generalizing a with
  | nil => intro h; exact h
  | cons c l ih =>
    intro h
    simp only [whF] at h ⊢
    split at h
    · rename_i h1
      rw [if_pos h1]
      split at h
      · rw [if_pos (by omega)]; exact ih h
      · cases h
    · cases h
theorem wh_down {m M : Nat} : ∀ {a n : Nat} {l : List UInt8}, whF M a l = some n → n ≤ m → whF m a l = some n := by
  intro a n l
  induction l generalizing a with
  | nil => intro h _; exact h
  | cons c l ih =>
    intro h hn
    simp only [whF] at h ⊢
    split at h
    · rename_i h1
      rw [if_pos h1]
      split at h
      · have hg := wh_grow h
        have hp : 1 ≤ 10 ^ l.length := Nat.one_le_pow _ _ (by decide)
        have : 10 * a + (c.toNat - 48) ≤ n := Nat.le_trans (Nat.le_mul_of_pos_right _ hp) hg
        rw [if_pos (by omega)]; exact ih h hn
      · cases h
    · cases h
theorem wh_long {l : List UInt8} {n : Nat} (h : whF 4294967295 0 l = some n) (hz : ¬ (1 < l.length ∧ hd0 l = 48)) : l.length ≤ 10 := by
  cases l with
  | nil => simp
  | cons c l =>
    rcases Nat.lt_or_ge 10 (c :: l).length with hl | hl
    · exfalso
      have hc : ¬ c = 48 := fun e => hz ⟨by omega, by rw [e]; rfl⟩
      have hle := whF_le (Nat.zero_le _) h
      simp only [whF] at h
      split at h
      · rename_i hd
        split at h
        · have hg := wh_grow h
          simp [digB] at hd
          have h48 : c.toNat ≠ 48 := fun e => hc (by rw [← UInt8.toNat_inj]; exact e)
          have h1 : 1 ≤ 10 * 0 + (c.toNat - 48) := by omega
          have h2 : 10 ^ 10 ≤ 10 ^ l.length := Nat.pow_le_pow_right (by decide) (by rw [List.length_cons] at hl; omega)
          have h3 : 1 * 10 ^ l.length ≤ (10 * 0 + (c.toNat - 48)) * 10 ^ l.length := Nat.mul_le_mul_right _ h1
          have h4 : (10 : Nat) ^ 10 = 10000000000 := by decide
          omega
        · cases h
      · cases h
    · exact hl
theorem dec_plain {l : List UInt8} : (decI 4294967295 false l = -1 ∧ ∀ n, whV 4294967295 l = some n → 1 < l.length ∧ hd0 l = 48) ∨ (∃ n : Nat, decI 4294967295 false l = n ∧ n ≤ 4294967295 ∧ whV 4294967295 l = some n ∧ ¬ (1 < l.length ∧ hd0 l = 48)) := by
  unfold decI
  by_cases h0 : l = []
  · left; rw [if_pos (Or.inl h0)]; exact ⟨rfl, fun n hn => by unfold whV at hn; rw [if_pos h0] at hn; cases hn⟩
  · by_cases hz : 1 < l.length ∧ hd0 l = 48
    · left; rw [if_pos (Or.inr ⟨rfl, Or.inr hz⟩)]; exact ⟨rfl, fun _ _ => hz⟩
    · cases hw : whF 4294967295 0 l with
      | none =>
        left
        refine ⟨?_, fun n hn => by unfold whV at hn; rw [if_neg h0, hw] at hn; cases hn⟩
        split
        · rfl
        · exact whI_none hw
      | some n =>
        right
        have hl := wh_long hw hz
        refine ⟨n, ?_, whF_le (Nat.zero_le _) hw, by unfold whV; rw [if_neg h0]; exact hw, hz⟩
        rw [if_neg (by intro e; rcases e with e | ⟨_, e | e⟩; exact h0 e; omega; exact hz e)]
        exact whI_some hw
theorem dec_wide {l : List UInt8} : (decI 256 false l < 1 ∧ ∀ n, whV 4294967295 l = some n → (1 < l.length ∧ hd0 l = 48) ∨ n < 1 ∨ 256 < n) ∨ (∃ n : Nat, decI 256 false l = n ∧ 1 ≤ n ∧ n ≤ 256 ∧ whV 4294967295 l = some n ∧ ¬ (1 < l.length ∧ hd0 l = 48)) := by
  rcases dec_plain (l := l) with ⟨_, h⟩ | ⟨n, _, _, h2, h3⟩
  · left
    refine ⟨?_, fun n hn => Or.inl (h n hn)⟩
    unfold decI
    split
    · decide
    · rename_i hne
      cases hw : whF 256 0 l with
      | none => rw [whI_none hw]; decide
      | some n =>
        exfalso
        have h0 : ¬ l = [] := fun e => hne (Or.inl e)
        exact hne (Or.inr ⟨rfl, Or.inr (h n (by unfold whV; rw [if_neg h0]; exact wh_up (by decide) hw))⟩)
  · have h0 : ¬ l = [] := by intro e; unfold whV at h2; rw [if_pos e] at h2; cases h2
    have hw : whF 4294967295 0 l = some n := by unfold whV at h2; rw [if_neg h0] at h2; exact h2
    have hl := wh_long hw h3
    have hc : ¬ (l = [] ∨ (false = false ∧ (10 < l.length ∨ (1 < l.length ∧ hd0 l = 48)))) := by
      intro e; rcases e with e | ⟨_, e | e⟩; exact h0 e; omega; exact h3 e
    by_cases hb : 1 ≤ n ∧ n ≤ 256
    · right
      exact ⟨n, by unfold decI; rw [if_neg hc, whI_some (wh_down hw hb.2)], hb.1, hb.2, h2, h3⟩
    · left
      refine ⟨?_, fun k hk => by rw [h2] at hk; injection hk with hk; subst hk; right; omega⟩
      unfold decI
      rw [if_neg hc]
      cases hw2 : whF 256 0 l with
      | none => rw [whI_none hw2]; decide
      | some k =>
        have := wh_up (M := 4294967295) (by decide) hw2
        rw [hw] at this
        injection this with this
        subst this
        have := whF_le (Nat.zero_le _) hw2
        rw [whI_some hw2]; omega
/-- the bits of a number's digits, by its base -/
def digL (c : UInt8) (l : List UInt8) : List UInt8 :=
  if l = [] then [] else if c = 100 then (match whF 2147483647 0 l with | none => [] | some n => ofL n 31) else if c = 98 then oS (cat 1 l) else if c = 104 then oS (cat 4 l) else []
/-- these bits at a width -/
def widL (d : List UInt8) (w : Nat) : List UInt8 := if d.length < w ∧ (hd0 d = 120 ∨ hd0 d = 122) then rep (w - d.length) (hd0 d) ++ d else fit d w
theorem str_wid {b : List UInt8} {w : Nat} (hb : b ≠ []) : strV b w = some (widL b w) := by
  unfold strV widL
  rw [if_neg hb]
  by_cases h : w ≤ b.length
  · rw [if_pos h, if_neg (by omega)]; unfold fit; rw [if_pos h]
  · rw [if_neg h]
    by_cases hx : hd0 b = 120 ∨ hd0 b = 122
    · rw [if_pos hx, if_pos ⟨by omega, hx⟩]
    · rw [if_neg hx, if_neg (fun e => hx e.2)]
theorem gro_wid {k w : Nat} (hk : 1 ≤ k) (h1 : 1 ≤ w) {r b : List UInt8} (hr : r ≠ []) (hc : cat k r = some b) : groV k w r = some (widL b w) := by
  have hl := cat_len hc
  have hpos : 0 < r.length := List.length_pos_iff.2 hr
  have hbn : b ≠ [] := by intro e; have hm := Nat.mul_pos hk hpos; rw [← hl, e] at hm; exact absurd hm (by simp)
  have e4 : groV k w r = (cat k (r.drop (r.length - w))).bind fun c => strV c w := by unfold groV; rw [hc]; rfl
  rw [e4]
  rcases Nat.lt_or_ge w r.length with hlt | hge
  · obtain ⟨c, hcc⟩ := cat_drop (n := r.length - w) hc
    have happ := cat_append k (r.take (r.length - w)) (r.drop (r.length - w))
    rw [List.take_append_drop, hc, hcc] at happ
    cases ha : cat k (r.take (r.length - w)) with
    | none => rw [ha] at happ; cases happ
    | some a =>
      rw [ha] at happ
      have hab : b = a ++ c := by injection happ
      have hcl := cat_len hcc
      rw [List.length_drop, show r.length - (r.length - w) = w by omega] at hcl
      have hcw : w ≤ c.length := by rw [hcl]; exact Nat.le_mul_of_pos_left w hk
      have hbl : w ≤ b.length := by rw [hab, List.length_append]; omega
      rw [hcc]
      show strV c w = _
      have hcn : c ≠ [] := by intro e; rw [e] at hcw; simp at hcw; omega
      rw [str_wid hcn]
      unfold widL
      rw [if_neg (by omega), if_neg (by omega)]
      unfold fit
      rw [if_pos hcw, if_pos hbl]
      congr 1
      rw [hab, List.length_append, List.drop_append, List.drop_of_length_le (l := a) (by omega), List.nil_append]; congr 1; omega
  · rw [show r.length - w = 0 by omega, List.drop_zero, hc]
    exact str_wid hbn
theorem of_fit {n w : Nat} (hn : n ≤ 2147483647) (hw : 1 ≤ w) : fit (ofL n 31) w = ofL n w := by
  unfold fit
  rw [len_ofL]
  split
  · rename_i h
    apply List.ext_getElem (by rw [List.length_drop, len_ofL, len_ofL]; omega)
    intro i h1 h2
    rw [List.getElem_drop]
    simp only [ofL, tab, List.getElem_map, List.getElem_range]
    unfold ofBit
    rw [len_ofL] at h2
    rw [show 31 - 1 - (31 - w + i) = w - 1 - i by omega]
  · rename_i h
    apply List.ext_getElem (by rw [List.length_append, List.length_replicate, len_ofL, len_ofL]; omega)
    intro i h1 h2
    rw [len_ofL] at h2
    rw [List.getElem_append]
    split
    · rename_i h3
      rw [List.length_replicate] at h3
      rw [List.getElem_replicate]
      simp only [ofL, tab, List.getElem_map, List.getElem_range]
      unfold ofBit
      have h4 : n / 2 ^ (w - 1 - i) = 0 := by
        apply Nat.div_eq_of_lt
        have : 2 ^ 31 ≤ 2 ^ (w - 1 - i) := Nat.pow_le_pow_right (by decide) (by omega)
        have h5 : (2 : Nat) ^ 31 = 2147483648 := by decide
        omega
      rw [h4]; rfl
    · rename_i h3
      rw [List.length_replicate] at h3
      simp only [ofL, tab, List.getElem_map, List.getElem_range, List.length_replicate]
      unfold ofBit
      rw [show 31 - 1 - (i - (w - 31)) = w - 1 - i by omega]
theorem bas_dig {c : UInt8} {r : List UInt8} {w : Nat} (h1 : 1 ≤ w) : basV c r w = if digL c r = [] then none else some (widL (digL c r) w) := by
  unfold basV digL
  by_cases hr : r = []
  · subst hr
    rw [if_pos rfl, if_pos rfl]
    split
    · unfold groV; simp [cat, strV]
    split
    · unfold groV; simp [cat, strV]
    split
    · rfl
    · rfl
  · rw [if_neg hr]
    by_cases h100 : c = 100
    · subst h100
      rw [if_neg (by decide), if_neg (by decide), if_pos rfl, if_pos rfl]
      unfold whV
      rw [if_neg hr]
      cases hw : whF 2147483647 0 r with
      | none => rfl
      | some n =>
        have hn := whF_le (Nat.zero_le _) hw
        have hne : ofL n 31 ≠ [] := by intro e; have := congrArg List.length e; rw [len_ofL] at this; simp at this
        have hh : ¬ (hd0 (ofL n 31) = 120 ∨ hd0 (ofL n 31) = 122) := by
          have : hd0 (ofL n 31) = ofBit n 31 0 := rfl
          rw [this]; unfold ofBit; split <;> decide
        show some (ofL n w) = if ofL n 31 = [] then none else some (widL (ofL n 31) w)
        rw [if_neg hne]
        unfold widL
        rw [if_neg (fun e => hh e.2), of_fit hn h1]
    · rw [if_neg h100, if_neg h100]
      by_cases h98 : c = 98
      · rw [if_pos h98, if_pos h98]
        cases hc : cat 1 r with
        | none => unfold groV; rw [hc]; rfl
        | some b =>
          have hbn : b ≠ [] := by intro e; have := cat_len hc; rw [e] at this; simp at this; exact hr (List.length_eq_zero_iff.1 (by omega))
          show groV 1 w r = if b = [] then none else some (widL b w)
          rw [if_neg hbn, gro_wid (Nat.le_refl _) h1 hr hc]
      · rw [if_neg h98, if_neg h98]
        by_cases h104 : c = 104
        · rw [if_pos h104, if_pos h104]
          cases hc : cat 4 r with
          | none => unfold groV; rw [hc]; rfl
          | some b =>
            have hbn : b ≠ [] := by intro e; have := cat_len hc; rw [e] at this; simp at this; exact hr (List.length_eq_zero_iff.1 (by omega))
            show groV 4 w r = if b = [] then none else some (widL b w)
            rw [if_neg hbn, gro_wid (by omega) h1 hr hc]
        · rw [if_neg h104, if_neg h104]; rfl
end Lg

/- Layer 2, plain: where tokens stand. -/
namespace Lg
open Go
/-- what stands at a token's place -/
def txt (t : Tok) : List UInt8 := if t.k = 4 then 96 :: t.x else if t.k = 5 then [10] else t.x
def kok (k : Int) : Prop := k = 1 ∨ k = 2 ∨ k = 3 ∨ k = 4 ∨ k = 5
theorem tw_take (q : UInt8 → Bool) (l : List UInt8) : l.take (l.takeWhile q).length = l.takeWhile q := by
  have := List.takeWhile_append_dropWhile (p := q) (l := l)
  conv => lhs; arg 2; rw [← this]
  rw [List.take_left]
theorem stp_tk {df : Bool} {c : UInt8} {r x : List UInt8} {k : Int} {m p : Nat} (h : stp df c r = .tk k x m) : kok k ∧ txt ⟨k, x, p⟩ = (c :: r).take m := by
  unfold stp at h
  split at h
  · rename_i hc
    injection h with h1 h2 h3
    subst h1 h2 h3
    rw [hc.1]
    exact ⟨by unfold kok; simp, rfl⟩
  split at h
  · cases h
  split at h
  · split at h <;> cases h
  split at h
  · rename_i hc
    unfold tickP at h
    split at h
    · cases h
    split at h
    · cases h
    · injection h with h1 h2 h3
      subst h1 h2 h3
      refine ⟨by unfold kok; simp, ?_⟩
      rw [Nat.add_comm, hc]
      show 96 :: wordL r = 96 :: r.take (wordL r).length
      rw [show r.take (wordL r).length = wordL r from tw_take _ _]
  split at h
  · split at h
    · cases h
    · injection h with h1 h2 h3
      subst h1 h2 h3
      exact ⟨by unfold kok; simp, (tw_take worB (c :: r)).symm⟩
  split at h
  · split at h
    · cases h
    · injection h with h1 h2 h3
      subst h1 h2 h3
      exact ⟨by unfold kok; simp, (tw_take numB (c :: r)).symm⟩
  split at h
  · injection h with h1 h2 h3
    subst h1 h2 h3
    exact ⟨by unfold kok; simp, rfl⟩
  · cases h
theorem stp_err0 {df : Bool} {c : UInt8} {r : List UInt8} {e : Int} (h : stp df c r = .err e) : e ≠ 0 := by
  have : e = 20 ∨ e = 4 ∨ e = 21 := by
    unfold stp tickP at h
    repeat' (split at h)
    all_goals first | (cases h; done) | (injection h with h; subst h; simp)
  rcases this with rfl | rfl | rfl <;> decide
/-- tokens stand in their order, and are what stands there -/
def okT (l : List UInt8) : Nat → List Tok → Prop
  | _, [] => True
  | e, t :: ts => e ≤ t.p ∧ 1 ≤ (txt t).length ∧ t.p + (txt t).length ≤ l.length ∧ (l.drop t.p).take (txt t).length = txt t ∧ kok t.k ∧ okT l (t.p + (txt t).length) ts
theorem okT_mono {l : List UInt8} {e e' : Nat} {ts : List Tok} (h : okT l e ts) (he : e' ≤ e) : okT l e' ts := by
  cases ts with
  | nil => trivial
  | cons t ts => exact ⟨Nat.le_trans he h.1, h.2⟩
theorem lex_ok (l : List UInt8) : ∀ (f p : Nat) (df : Bool) (n : Nat) (ts : List Tok), l.length - p ≤ f → p ≤ l.length → lexG p (l.drop p) df n = .toks ts → okT l p ts := by
  intro f
  induction f with
  | zero =>
    intro p df n ts hf hp h
    rw [List.drop_of_length_le (by omega), lexG_nil] at h
    injection h with h; subst h; trivial
  | succ f ih =>
    intro p df n ts hf hp h
    rcases Nat.lt_or_ge p l.length with hlt | hge
    · have hcr := List.drop_eq_getElem_cons hlt
      rw [hcr] at h
      have hsp := stp_pos df l[p] (l.drop (p + 1))
      rw [← hcr, List.length_drop] at hsp
      cases hq : stp df l[p] (l.drop (p + 1)) with
      | skip m =>
        rw [hq] at hsp
        have hs2 : 1 ≤ m ∧ m ≤ l.length - p := hsp
        rw [lexG_skip hq, ← hcr, List.drop_drop] at h
        exact okT_mono (ih (p + m) df n ts (by omega) (by omega) h) (by omega)
      | err e => rw [lexG_err hq] at h; cases h
      | tk k x m =>
        rw [hq] at hsp
        have hs2 : 1 ≤ m ∧ m ≤ l.length - p := hsp
        by_cases hn : n = 16384
        · rw [lexG_full hq hn] at h; cases h
        · rw [lexG_tk hq hn, ← hcr, List.drop_drop] at h
          cases hg : lexG (p + m) (l.drop (p + m)) (dfN df k x) (n + 1) with
          | bad q e => rw [hg] at h; cases h
          | toks us =>
            rw [hg] at h
            injection h with h
            subst h
            obtain ⟨hk, ht⟩ := stp_tk (p := p) hq
            rw [← hcr] at ht
            have hl : (txt ⟨k, x, p⟩).length = m := by rw [ht, List.length_take, List.length_drop]; omega
            refine ⟨Nat.le_refl _, by rw [hl]; omega, by rw [hl]; show p + m ≤ _; omega, by rw [hl]; exact ht.symm, hk, ?_⟩
            rw [hl]
            exact ih (p + m) _ _ us (by omega) (by omega) hg
    · rw [List.drop_of_length_le hge, lexG_nil] at h
      injection h with h; subst h; trivial
theorem lex_bad (l : List UInt8) : ∀ (f p : Nat) (df : Bool) (n : Nat) (q : Nat) (e : Int), l.length - p ≤ f → p ≤ l.length → lexG p (l.drop p) df n = .bad q e → q < l.length ∧ e ≠ 0 := by
  intro f
  induction f with
  | zero =>
    intro p df n q e hf hp h
    rw [List.drop_of_length_le (by omega), lexG_nil] at h
    cases h
  | succ f ih =>
    intro p df n q e hf hp h
    rcases Nat.lt_or_ge p l.length with hlt | hge
    · have hcr := List.drop_eq_getElem_cons hlt
      rw [hcr] at h
      have hsp := stp_pos df l[p] (l.drop (p + 1))
      rw [← hcr, List.length_drop] at hsp
      cases hq : stp df l[p] (l.drop (p + 1)) with
      | skip m =>
        rw [hq] at hsp
        have hs2 : 1 ≤ m ∧ m ≤ l.length - p := hsp
        rw [lexG_skip hq, ← hcr, List.drop_drop] at h
        exact ih (p + m) df n q e (by omega) (by omega) h
      | err c =>
        rw [lexG_err hq] at h
        injection h with h1 h2
        subst h1 h2
        exact ⟨hlt, stp_err0 hq⟩
      | tk k x m =>
        rw [hq] at hsp
        have hs2 : 1 ≤ m ∧ m ≤ l.length - p := hsp
        by_cases hn : n = 16384
        · rw [lexG_full hq hn] at h; injection h with h1 h2; subst h1 h2; exact ⟨hlt, by decide⟩
        · rw [lexG_tk hq hn, ← hcr, List.drop_drop] at h
          cases hg : lexG (p + m) (l.drop (p + m)) (dfN df k x) (n + 1) with
          | bad q2 e2 =>
            rw [hg] at h
            injection h with h1 h2
            subst h1 h2
            exact ih (p + m) _ _ _ _ (by omega) (by omega) hg
          | toks us => rw [hg] at h; cases h
    · rw [List.drop_of_length_le hge, lexG_nil] at h
      cases h
theorem places_bad {l : List UInt8} {p : Nat} {e : Int} (h : lexL l = .bad p e) : (p < l.length ∨ p = 0) ∧ e ≠ 0 := by
  unfold lexL at h
  split at h
  · injection h with h1 h2; subst h1 h2; exact ⟨Or.inr rfl, by decide⟩
  · cases hg : lexG 0 l false 0 with
    | toks t => rw [hg] at h; cases h
    | bad q c =>
      rw [hg] at h
      injection h with h1 h2
      subst h1 h2
      obtain ⟨a, b⟩ := lex_bad l l.length 0 false 0 q c (by omega) (by omega) (by rw [List.drop_zero]; exact hg)
      exact ⟨Or.inl a, b⟩
theorem places_toks {l : List UInt8} {t : List Tok} (h : lexL l = .toks t) : ∃ ts, t = ts ++ [⟨6, [], l.length⟩] ∧ okT l 0 ts := by
  unfold lexL at h
  split at h
  · cases h
  · cases hg : lexG 0 l false 0 with
    | bad q c => rw [hg] at h; cases h
    | toks us =>
      rw [hg] at h
      injection h with h
      exact ⟨us, h.symm, lex_ok l l.length 0 false 0 us (by omega) (by omega) (by rw [List.drop_zero]; exact hg)⟩
end Lg

/- Layer 2, plain: two sources have the tokens of both. -/
namespace Lg
open Go
set_option linter.unusedVariables false
set_option linter.unusedSimpArgs false
/-- its last byte is a newline -/
def nl (l : List UInt8) : Prop := ∃ a, l = a ++ [10]
theorem nl_tail {c : UInt8} {r : List UInt8} (h : nl (c :: r)) (hc : c ≠ 10) : nl r := by
  obtain ⟨a, ha⟩ := h
  cases a with
  | nil => injection ha with h1 h2; exact absurd h1 hc
  | cons d a => injection ha with h1 h2; exact ⟨a, h2⟩
theorem nl_drop {l : List UInt8} (h : nl l) (p : Nat) (hp : p < l.length) : nl (l.drop p) := by
  obtain ⟨a, rfl⟩ := h
  rw [List.length_append] at hp
  simp at hp
  exact ⟨a.drop p, by rw [List.drop_append_of_le_length (by omega)]⟩
theorem nl_ne {l : List UInt8} (h : nl l) : l ≠ [] := by obtain ⟨a, rfl⟩ := h; simp
theorem tw_app {q : UInt8 → Bool} (hq : q 10 = false) {l : List UInt8} (h : nl l) (t : List UInt8) : (l ++ t).takeWhile q = l.takeWhile q := by
  obtain ⟨a, rfl⟩ := h
  induction a with
  | nil => simp [List.takeWhile_cons, hq]
  | cons c a ih =>
    simp only [List.cons_append, List.takeWhile_cons]
    cases q c with
    | false => rfl
    | true => simp only [if_true]; rw [ih]
theorem tw_lt {q : UInt8 → Bool} (hq : q 10 = false) {l : List UInt8} (h : nl l) : (l.takeWhile q).length < l.length := by
  obtain ⟨a, rfl⟩ := h
  induction a with
  | nil => simp [List.takeWhile_cons, hq]
  | cons c a ih =>
    simp only [List.cons_append, List.takeWhile_cons]
    cases q c with
    | false => simp
    | true => simp only [if_true, List.length_cons]; omega
theorem ixb_app {l : List UInt8} (h : nl l) (t : List UInt8) : 0 ≤ Lib.indexByte l 10 ∧ Lib.indexByte l 10 < l.length ∧ Lib.indexByte (l ++ t) 10 = Lib.indexByte l 10 := by
  obtain ⟨a, rfl⟩ := h
  induction a with
  | nil => simp [Lib.indexByte]
  | cons c a ih =>
    simp only [List.cons_append, Lib.indexByte]
    by_cases hc : c = 10
    · subst hc; simp; omega
    · have h1 : (c == 10) = false := by simpa using hc
      rw [h1]
      obtain ⟨i1, i2, i3⟩ := ih
      have i4 : (Lib.indexByte (a ++ [10]) 10 == -1) = false := by rw [beq_eq_false_iff_ne]; omega
      rw [i3, i4]
      simp
      simp at i2
      omega
theorem idx_app (a b : UInt8) (l t : List UInt8) (h : 0 ≤ Lib.index l [a, b]) : Lib.index (l ++ t) [a, b] = Lib.index l [a, b] := by
  induction l with
  | nil => simp [Lib.index] at h
  | cons c l ih =>
    simp only [List.cons_append, Lib.index] at h ⊢
    have hpre : ∀ d : List UInt8, [a, b].isPrefixOf (c :: l) = true → [a, b].isPrefixOf (c :: (l ++ d)) = true := by
      intro d hp
      cases l with
      | nil => simp [List.isPrefixOf] at hp
      | cons e l => simpa [List.isPrefixOf] using hp
    by_cases hp : [a, b].isPrefixOf (c :: l) = true
    · rw [if_pos hp, if_pos (hpre t hp)]
    · rw [if_neg hp] at h ⊢
      by_cases h1 : Lib.index l [a, b] = -1
      · rw [h1] at h; simp at h
      · have h2 : (Lib.index l [a, b] == -1) = false := by simpa using h1
        have hge := Lib.index_ge l [a, b]
        have hl := idx_le l a b
        have hlen : 2 ≤ l.length := by omega
        have hp2 : ¬ [a, b].isPrefixOf (c :: (l ++ t)) = true := by
          match l, hlen with
          | e :: l, _ => simpa [List.isPrefixOf] using hp
        rw [if_neg hp2, ih (by omega)]
/-- where it is found it stands -/
theorem idx_at (a b : UInt8) (l : List UInt8) (n : Nat) (h : Lib.index l [a, b] = (n : Int)) : ∃ x y, l = x ++ a :: b :: y ∧ x.length = n := by
  induction l generalizing n with
  | nil => simp [Lib.index] at h
  | cons c l ih =>
    simp only [Lib.index] at h
    by_cases hp : [a, b].isPrefixOf (c :: l) = true
    · rw [if_pos hp] at h
      cases l with
      | nil => simp [List.isPrefixOf] at hp
      | cons e l =>
        simp [List.isPrefixOf] at hp
        exact ⟨[], l, by rw [hp.1, hp.2]; rfl, by simp; omega⟩
    · rw [if_neg hp] at h
      by_cases h1 : Lib.index l [a, b] = -1
      · rw [h1] at h; simp at h
      · have h2 : (Lib.index l [a, b] == -1) = false := by simpa using h1
        rw [h2] at h
        simp at h
        obtain ⟨k, hk⟩ : ∃ k : Nat, Lib.index l [a, b] = k := ⟨(Lib.index l [a, b]).toNat, by have := Lib.index_ge l [a, b]; omega⟩
        obtain ⟨x, y, hxy, hx⟩ := ih k hk
        exact ⟨c :: x, y, by rw [hxy]; rfl, by simp; omega⟩
theorem hp_app (x y : UInt8) {c : UInt8} {r : List UInt8} (hr : r ≠ []) (t : List UInt8) : Lib.hasPrefix (c :: (r ++ t)) [x, y] = Lib.hasPrefix (c :: r) [x, y] := by
  cases r with
  | nil => exact absurd rfl hr
  | cons d r => simp [Lib.hasPrefix, List.isPrefixOf]
theorem comW_app {c : UInt8} {r : List UInt8} (h : nl r) (t : List UInt8) (h0 : comW (c :: r) ≠ 0) : comW (c :: (r ++ t)) = comW (c :: r) := by
  have hne := nl_ne h
  have hnl : nl (c :: r) := by obtain ⟨a, rfl⟩ := h; exact ⟨c :: a, rfl⟩
  obtain ⟨i1, i2, i3⟩ := ixb_app hnl t
  unfold comW at h0 ⊢
  rw [hp_app 47 47 hne, hp_app 47 42 hne]
  by_cases g : Lib.hasPrefix (c :: r) [47, 47] = true
  · rw [if_pos g, if_pos g, if_pos i1]
    rw [show c :: (r ++ t) = (c :: r) ++ t from rfl, i3, if_pos i1]
  · rw [if_neg g] at h0 ⊢
    rw [if_neg g]
    by_cases g2 : Lib.hasPrefix (c :: r) [47, 42] = true
    · rw [if_pos g2] at h0 ⊢
      rw [if_pos g2]
      by_cases g3 : 0 ≤ Lib.index ((c :: r).drop 2) [42, 47]
      · have e : (c :: (r ++ t)).drop 2 = (c :: r).drop 2 ++ t := by
          cases r with
          | nil => exact absurd rfl hne
          | cons d r => rfl
        rw [e, idx_app _ _ _ _ g3]
      · rw [if_neg g3] at h0; exact absurd rfl h0
    · rw [if_neg g2] at h0; exact absurd rfl h0
theorem comW_lt {c : UInt8} {r : List UInt8} (h : nl (c :: r)) : comW (c :: r) < (c :: r).length := by
  obtain ⟨i1, i2, _⟩ := ixb_app h []
  unfold comW
  split
  · omega
  split
  · split
    · rename_i g
      obtain ⟨k, hk⟩ : ∃ k : Nat, Lib.index ((c :: r).drop 2) [42, 47] = k := ⟨(Lib.index ((c :: r).drop 2) [42, 47]).toNat, by omega⟩
      obtain ⟨x, y, hxy, hx⟩ := idx_at 42 47 _ k hk
      have hl := congrArg List.length hxy
      rw [List.length_drop, List.length_append, List.length_cons, List.length_cons] at hl
      cases y with
      | cons e y => rw [hk, Int.toNat_natCast]; simp only [List.length_cons] at hl ⊢; omega
      | nil =>
        exfalso
        obtain ⟨a, ha⟩ := h
        have e1 : (c :: r).getLast? = some 10 := by rw [ha]; simp
        have e3 : c :: r = ((c :: r).take 2 ++ x ++ [42]) ++ [47] := by
          conv => lhs; rw [← List.take_append_drop 2 (c :: r), hxy]
          rw [List.append_assoc, List.append_assoc]; rfl
        have e2 : (c :: r).getLast? = some 47 := by rw [e3, List.getLast?_concat]
        rw [e1] at e2
        cases e2
    · simp
  · simp
theorem hd0_app2 {a b : List UInt8} (h : a ≠ []) : hd0 (a ++ b) = hd0 a := by
  cases a with
  | nil => exact absurd rfl h
  | cons c a => rfl
theorem word10 : worB 10 = false := by decide
theorem numb10 : numB 10 = false := by decide
theorem stp_app {df : Bool} {c : UInt8} {r : List UInt8} (h : nl (c :: r)) (t : List UInt8) (hne : ∀ e, stp df c r ≠ .err e) : stp df c (r ++ t) = stp df c r := by
  by_cases hc : c = 10
  · subst hc
    cases df <;> rfl
  · have hr := nl_tail h hc
    have hrn := nl_ne hr
    have hw : ∀ q : UInt8 → Bool, q 10 = false → (c :: (r ++ t)).takeWhile q = (c :: r).takeWhile q := fun q hq => tw_app hq h t
    have n1 : ¬ (c = 10 ∧ df = true) := fun e => hc e.1
    unfold stp at hne ⊢
    rw [if_neg n1] at hne ⊢
    rw [if_neg n1]
    by_cases h2 : kinds c = 24 ∨ kinds c = 8
    · rw [if_pos h2, if_pos h2]
    · rw [if_neg h2] at hne ⊢
      rw [if_neg h2]
      by_cases h3 : c = 47
      · rw [if_pos h3] at hne ⊢
        rw [if_pos h3]
        have h0 : comW (c :: r) ≠ 0 := fun e => by rw [if_pos e] at hne; exact hne _ rfl
        rw [comW_app hr t h0]
      · rw [if_neg h3] at hne ⊢
        rw [if_neg h3]
        by_cases h4 : c = 96
        · rw [if_pos h4, if_pos h4]
          unfold tickP
          have hw2 : wordL (r ++ t) = wordL r := tw_app word10 hr t
          rw [hw2, hd0_app2 hrn]
          have e1 : (r ++ t = [] ∨ letB (hd0 r) = false) ↔ (r = [] ∨ letB (hd0 r) = false) := by simp [hrn]
          simp only [e1]
        · rw [if_neg h4, if_neg h4]
          have hw2 : wordL (c :: (r ++ t)) = wordL (c :: r) := hw worB word10
          have hw3 : numbL (c :: (r ++ t)) = numbL (c :: r) := hw numB numb10
          have hw4 : (c :: (r ++ t)).take 2 = (c :: r).take 2 := by
            cases r with
            | nil => exact absurd rfl hrn
            | cons d r => rfl
          have hw5 : sgW (c :: (r ++ t)) = sgW (c :: r) := by unfold sgW; rw [hw4]
          have hw6 : (c :: (r ++ t)).take (sgW (c :: r)) = (c :: r).take (sgW (c :: r)) := by
            have hle := (sgW_le (c := c) (r := r)).2
            rw [show c :: (r ++ t) = (c :: r) ++ t from rfl, List.take_append_of_le_length hle]
          rw [hw2, hw3, hw5, hw6]
theorem stp_end {df : Bool} {c : UInt8} {r : List UInt8} (h : nl (c :: r)) : (∀ m, stp df c r = .skip m → m = (c :: r).length → df = false) ∧ (∀ k x m, stp df c r = .tk k x m → m = (c :: r).length → dfN df k x = false) := by
  by_cases hc : c = 10
  · subst hc
    cases df with
    | false =>
      have e : stp false 10 r = .skip 1 := rfl
      rw [e]
      exact ⟨fun _ _ _ => rfl, fun k x m hh _ => (by cases hh)⟩
    | true =>
      have e : stp true 10 r = .tk 5 [] 1 := rfl
      rw [e]
      refine ⟨fun m hh _ => (by cases hh), fun k x m hh _ => ?_⟩
      injection hh with h1 h2 h3
      subst h1 h2
      rfl
  · have hr := nl_tail h hc
    have hlen : 1 ≤ r.length := List.length_pos_iff.2 (nl_ne hr)
    have key : ∀ o, stp df c r = o → (∀ m, o = .skip m → m < (c :: r).length) ∧ (∀ k x m, o = .tk k x m → m < (c :: r).length) := by
      intro o ho
      have n1 : ¬ (c = 10 ∧ df = true) := fun e => hc e.1
      unfold stp at ho
      rw [if_neg n1] at ho
      split at ho
      · subst ho; exact ⟨fun m hh => by injection hh with hh; subst hh; simp; omega, fun k x m hh => (by cases hh)⟩
      split at ho
      · split at ho
        · subst ho; exact ⟨fun m hh => (by cases hh), fun k x m hh => (by cases hh)⟩
        · subst ho; exact ⟨fun m hh => by injection hh with hh; subst hh; exact comW_lt h, fun k x m hh => (by cases hh)⟩
      split at ho
      · unfold tickP at ho
        split at ho
        · subst ho; exact ⟨fun m hh => (by cases hh), fun k x m hh => (by cases hh)⟩
        split at ho
        · subst ho; exact ⟨fun m hh => (by cases hh), fun k x m hh => (by cases hh)⟩
        · subst ho
          refine ⟨fun m hh => (by cases hh), fun k x m hh => ?_⟩
          injection hh with _ _ hh
          subst hh
          have := tw_lt word10 hr
          show 1 + (wordL r).length < r.length + 1
          unfold wordL; omega
      split at ho
      · split at ho
        · subst ho; exact ⟨fun m hh => (by cases hh), fun k x m hh => (by cases hh)⟩
        · subst ho
          refine ⟨fun m hh => (by cases hh), fun k x m hh => ?_⟩
          injection hh with _ _ hh
          subst hh
          exact tw_lt word10 h
      split at ho
      · split at ho
        · subst ho; exact ⟨fun m hh => (by cases hh), fun k x m hh => (by cases hh)⟩
        · subst ho
          refine ⟨fun m hh => (by cases hh), fun k x m hh => ?_⟩
          injection hh with _ _ hh
          subst hh
          exact tw_lt numb10 h
      split at ho
      · subst ho
        refine ⟨fun m hh => (by cases hh), fun k x m hh => ?_⟩
        injection hh with _ _ hh
        subst hh
        have hnt : twos.contains ((c :: r).take 2) = true → 2 < (c :: r).length := by
          intro ht
          match r, hr, hlen with
          | [d], hr, _ =>
            obtain ⟨a, ha⟩ := hr
            have : d = 10 := by
              cases a with
              | nil => injection ha
              | cons e a => injection ha with _ h2; cases a <;> cases h2
            subst this
            exfalso
            simp [twos] at ht
          | d :: e :: r, _, _ => simp
        unfold sgW
        split
        · rename_i g; exact hnt g
        · simp; omega
      · subst ho; exact ⟨fun m hh => (by cases hh), fun k x m hh => (by cases hh)⟩
    refine ⟨fun m hh he => ?_, fun k x m hh he => ?_⟩
    · have := (key _ hh).1 m rfl; omega
    · have := (key _ hh).2 k x m rfl; omega
def shf (q : Nat) (t : Tok) : Tok := ⟨t.k, t.x, t.p + q⟩
theorem lex_join (l t : List UInt8) (hl : nl l) : ∀ (f p : Nat) (df : Bool) (n : Nat) (A : List Tok), l.length - p ≤ f → p ≤ l.length → (p = l.length → df = false) → n + A.length ≤ 16384 → lexG p (l.drop p) df n = .toks A →
    lexG p ((l ++ t).drop p) df n = Res.app A (lexG l.length t false (n + A.length)) := by
  intro f
  have base : ∀ (p : Nat) (df : Bool) (n : Nat) (A : List Tok), p = l.length → df = false → lexG p (l.drop p) df n = .toks A → lexG p ((l ++ t).drop p) df n = Res.app A (lexG l.length t false (n + A.length)) := by
    intro p df n A hp hd h
    subst hp hd
    rw [List.drop_of_length_le (Nat.le_refl _), lexG_nil] at h
    injection h with h
    subst h
    rw [List.drop_left, app_nil]; rfl
  induction f with
  | zero =>
    intro p df n A hf hp hd hn h
    exact base p df n A (by omega) (hd (by omega)) h
  | succ f ih =>
    intro p df n A hf hp hd hn h
    rcases Nat.lt_or_ge p l.length with hlt | hge
    · have hcr := List.drop_eq_getElem_cons hlt
      have hnl : nl (l[p] :: l.drop (p + 1)) := by rw [← hcr]; exact nl_drop hl p hlt
      have hcr2 : (l ++ t).drop p = l[p] :: (l.drop (p + 1) ++ t) := by rw [List.drop_append_of_le_length (by omega), hcr]; rfl
      rw [hcr] at h
      have hsp := stp_pos df l[p] (l.drop (p + 1))
      rw [← hcr, List.length_drop] at hsp
      have hend := stp_end (df := df) hnl
      rw [← hcr, List.length_drop] at hend
      cases hq : stp df l[p] (l.drop (p + 1)) with
      | err e => rw [lexG_err hq] at h; cases h
      | skip m =>
        rw [hq] at hsp
        have hs2 : 1 ≤ m ∧ m ≤ l.length - p := hsp
        have hq2 : stp df l[p] (l.drop (p + 1) ++ t) = .skip m := by rw [stp_app hnl t (by intro e; rw [hq]; simp), hq]
        rw [lexG_skip hq, ← hcr, List.drop_drop] at h
        rw [hcr2, lexG_skip hq2, ← hcr2, List.drop_drop]
        exact ih (p + m) df n A (by omega) (by omega) (fun e => hend.1 m hq (by omega)) hn h
      | tk k x m =>
        rw [hq] at hsp
        have hs2 : 1 ≤ m ∧ m ≤ l.length - p := hsp
        have hq2 : stp df l[p] (l.drop (p + 1) ++ t) = .tk k x m := by rw [stp_app hnl t (by intro e; rw [hq]; simp), hq]
        by_cases hn2 : n = 16384
        · rw [lexG_full hq hn2] at h; cases h
        · rw [lexG_tk hq hn2, ← hcr, List.drop_drop] at h
          cases hg : lexG (p + m) (l.drop (p + m)) (dfN df k x) (n + 1) with
          | bad q e => rw [hg] at h; cases h
          | toks us =>
            rw [hg] at h
            injection h with h
            subst h
            rw [hcr2, lexG_tk hq2 hn2, ← hcr2, List.drop_drop]
            rw [List.length_cons] at hn
            rw [ih (p + m) _ (n + 1) us (by omega) (by omega) (fun e => hend.2 k x m hq (by omega)) (by omega) hg, List.length_cons, show n + 1 + us.length = n + (us.length + 1) by omega]
            cases lexG l.length t false (n + (us.length + 1)) <;> rfl
    · exact base p df n A (by omega) (hd (by omega)) h
theorem lex_shift (q : Nat) : ∀ (f : Nat) (l : List UInt8) (p : Nat) (df : Bool) (n n' : Nat) (B : List Tok), l.length ≤ f → n' + B.length ≤ 16384 → lexG p l df n = .toks B → lexG (p + q) l df n' = .toks (B.map (shf q)) := by
  intro f
  induction f with
  | zero =>
    intro l p df n n' B hf hn h
    have : l = [] := List.length_eq_zero_iff.1 (by omega)
    subst this
    rw [lexG_nil] at h ⊢
    injection h with h
    subst h; rfl
  | succ f ih =>
    intro l p df n n' B hf hn h
    cases l with
    | nil =>
      rw [lexG_nil] at h ⊢
      injection h with h
      subst h; rfl
    | cons c r =>
      have hsp := stp_pos df c r
      cases hq : stp df c r with
      | err e => rw [lexG_err hq] at h; cases h
      | skip m =>
        rw [hq] at hsp
        have hs2 : 1 ≤ m ∧ m ≤ (c :: r).length := hsp
        rw [lexG_skip hq] at h ⊢
        rw [show p + q + m = p + m + q by omega]
        exact ih _ _ _ n n' B (by rw [List.length_drop]; omega) hn h
      | tk k x m =>
        rw [hq] at hsp
        have hs2 : 1 ≤ m ∧ m ≤ (c :: r).length := hsp
        by_cases hn2 : n = 16384
        · rw [lexG_full hq hn2] at h; cases h
        · rw [lexG_tk hq hn2] at h
          cases hg : lexG (p + m) ((c :: r).drop m) (dfN df k x) (n + 1) with
          | bad a e => rw [hg] at h; cases h
          | toks us =>
            rw [hg] at h
            injection h with h
            subst h
            rw [List.length_cons] at hn
            rw [lexG_tk hq (by omega), show p + q + m = p + m + q by omega, ih _ _ _ (n + 1) (n' + 1) us (by rw [List.length_drop]; omega) (by omega) hg]
            rfl
theorem joins {s t : List UInt8} {a b : List Tok} (ha : lexL (s ++ [10]) = .toks a) (hb : lexL t = .toks b) (hlen : a.length + b.length ≤ 16384) (hs : (s ++ 10 :: t).length ≤ 65536) :
    ∃ A B, a = A ++ [⟨6, [], s.length + 1⟩] ∧ b = B ++ [⟨6, [], t.length⟩] ∧ lexL (s ++ 10 :: t) = .toks (A ++ (B ++ [⟨6, [], t.length⟩]).map (shf (s.length + 1))) := by
  have e10 : s ++ 10 :: t = (s ++ [10]) ++ t := by simp
  unfold lexL at ha hb
  rw [if_neg (by rw [List.length_append] at hs ⊢; simp at hs ⊢; omega)] at ha
  rw [if_neg (by rw [List.length_append] at hs; simp at hs; omega)] at hb
  cases hA : lexG 0 (s ++ [10]) false 0 with
  | bad p e => rw [hA] at ha; cases ha
  | toks A =>
    cases hB : lexG 0 t false 0 with
    | bad p e => rw [hB] at hb; cases hb
    | toks B =>
      rw [hA] at ha
      rw [hB] at hb
      injection ha with ha
      injection hb with hb
      have hl1 : (s ++ [(10 : UInt8)]).length = s.length + 1 := by simp
      rw [hl1] at ha
      subst ha hb
      rw [List.length_append, List.length_append] at hlen
      simp at hlen
      refine ⟨A, B, rfl, rfl, ?_⟩
      unfold lexL
      rw [if_neg (by omega)]
      have h1 := lex_join (s ++ [10]) t ⟨s, rfl⟩ _ 0 false 0 A (Nat.le_refl _) (Nat.zero_le _) (fun _ => rfl) (by omega) (by rw [List.drop_zero]; exact hA)
      rw [List.drop_zero, hl1, Nat.zero_add] at h1
      have h2 := lex_shift (s.length + 1) t.length t 0 false 0 A.length B (Nat.le_refl _) (by omega) hB
      rw [Nat.zero_add] at h2
      rw [h2] at h1
      rw [e10, h1]
      show Res.toks (A ++ B.map (shf (s.length + 1)) ++ [⟨6, [], (s ++ [10] ++ t).length⟩]) = _
      rw [List.map_append, List.append_assoc]
      congr 3
      show [(⟨6, [], (s ++ [10] ++ t).length⟩ : Tok)] = [shf (s.length + 1) ⟨6, [], t.length⟩]
      unfold shf
      congr 2
      simp; omega
end Lg

/- Layer 4, plain: the words of the language, the operators, trees of expressions, and what an expression's tokens come to. No program in sight. -/
namespace Lg
open Go
set_option linter.unusedVariables false
set_option linter.unusedSimpArgs false
def wordsL : List (List UInt8) := [[109, 111, 100, 117, 108, 101], [101, 110, 100, 109, 111, 100, 117, 108, 101], [105, 110, 112, 117, 116], [111, 117, 116, 112, 117, 116], [114, 101, 103], [119, 105, 114, 101], [112, 97, 114, 97, 109, 101, 116, 101, 114], [108, 111, 99, 97, 108, 112, 97, 114, 97, 109], [97, 115, 115, 105, 103, 110], [97, 108, 119, 97, 121, 115], [112, 111, 115, 101, 100, 103, 101], [98, 101, 103, 105, 110], [101, 110, 100], [105, 102], [101, 108, 115, 101], [99, 97, 115, 101], [101, 110, 100, 99, 97, 115, 101], [100, 101, 102, 97, 117, 108, 116], [102, 111, 114]]
def isW (x : List UInt8) : Bool := wordsL.contains x
/-- the sign, or the word, that a token is; else none -/
def fixL (t : Tok) : List UInt8 := if (t.k = 1 ∧ isW t.x = true) ∨ (t.k = 3 ∧ isW t.x = false) then t.x else []
def nmB (t : Tok) : Bool := t.k == 1 && !isW t.x
def unL (x : List UInt8) : Int := if x = [126] then 7 else if x = [33] then 8 else if x = [45] then 9 else if x = [38] then 10 else if x = [124] then 11 else if x = [94] then 12 else 0
def biL (x : List UInt8) : Int × Nat := if x = [124, 124] then (27, 1) else if x = [38, 38] then (26, 2) else if x = [124] then (25, 3) else if x = [94] then (24, 4) else if x = [38] then (23, 5) else if x = [61, 61] then (21, 6) else if x = [33, 61] then (22, 6) else if x = [60] then (17, 7) else if x = [60, 61] then (18, 7) else if x = [62] then (19, 7) else if x = [62, 61] then (20, 7) else if x = [60, 60] then (15, 8) else if x = [62, 62] then (16, 8) else if x = [43] then (13, 9) else if x = [45] then (14, 9) else (0, 0)
/-- trees, one behind the other -/
inductive F where
  | nil
  | cons (op : Int) (nm vl : List UInt8) (pl : Bool) (kids : F) (p : Nat) (rest : F)
  deriving DecidableEq
/-- a tree -/
structure X where
  op : Int
  nm : List UInt8
  vl : List UInt8
  pl : Bool
  kids : F
  p : Nat
  deriving DecidableEq
def X.f (x : X) (r : F) : F := .cons x.op x.nm x.vl x.pl x.kids x.p r
def F.len : F → Nat
  | .nil => 0
  | .cons _ _ _ _ _ _ r => r.len + 1
def F.snoc : F → X → F
  | .nil, x => x.f .nil
  | .cons op nm vl pl ks p r, x => .cons op nm vl pl ks p (r.snoc x)
theorem F.len_snoc (f : F) (x : X) : (f.snoc x).len = f.len + 1 := by
  induction f with
  | nil => rfl
  | cons op nm vl pl ks p r _ ih => show (r.snoc x).len + 1 = r.len + 1 + 1; rw [ih]
/-- what reading comes to: why it may not be; or a tree, and where the next token is -/
inductive R where
  | no (p : Nat) (c : Int)
  | ok (x : X) (k : Nat)
  deriving DecidableEq
/-- what is read: an expression; what binds so tightly; that, its first part being read; a unary one; a primary; what is behind a part of { } -/
inductive Md where
  | ex (d : Nat)
  | bi (d s : Nat)
  | bl (d s : Nat) (x : X)
  | un (d : Nat)
  | pr (d : Nat)
  | ct (d p : Nat) (a : F)
def tk (l : List Tok) (k : Nat) : Tok := l.getD k ⟨0, [], 0⟩
def fx (l : List Tok) (k : Nat) : List UInt8 := fixL (tk l k)
def pE (l : List Tok) : Nat → Md → Nat → Option R
  | 0, _, _ => none
  | f + 1, .ex d, k => match pE l f (.bi d 0) k with
    | some (.ok x k1) => if fx l k1 = [63] then (match pE l f (.ex (d + 1)) (k1 + 1) with
        | some (.ok y k2) => if fx l k2 = [58] then (match pE l f (.ex (d + 1)) (k2 + 1) with
            | some (.ok z k3) => some (.ok ⟨6, [], [], false, x.f (y.f (z.f .nil)), (tk l k1).p⟩ k3)
            | r => r) else some (.no (tk l k2).p 40)
        | r => r) else some (.ok x k1)
    | r => r
  | f + 1, .bi d s, k => match pE l f (.un d) k with
    | some (.ok x k1) => pE l f (.bl d s x) k1
    | r => r
  | f + 1, .bl d s x, k => if (biL (fx l k)).1 = 0 ∨ (biL (fx l k)).2 < s then some (.ok x k) else (match pE l f (.bi d ((biL (fx l k)).2 + 1)) (k + 1) with
    | some (.ok y k1) => pE l f (.bl d s ⟨(biL (fx l k)).1, [], [], false, x.f (y.f .nil), (tk l k).p⟩) k1
    | r => r)
  | f + 1, .un d, k => if unL (fx l k) = 0 then pE l f (.pr d) k else if 32 < d then some (.no (tk l k).p 41) else (match pE l f (.un (d + 1)) (k + 1) with
    | some (.ok y k1) => some (.ok ⟨unL (fx l k), [], [], false, y.f .nil, (tk l k).p⟩ k1)
    | r => r)
  | f + 1, .pr d, k =>
    if fx l k = [40] then (if 32 < d then some (.no (tk l k).p 41) else match pE l f (.ex (d + 1)) (k + 1) with
      | some (.ok x k1) => if fx l k1 = [41] then some (.ok x (k1 + 1)) else some (.no (tk l k1).p 40)
      | r => r)
    else if fx l k = [123] then (if 32 < d then some (.no (tk l k).p 41) else match pE l f (.ex (d + 1)) (k + 1) with
      | some (.ok x k1) => pE l f (.ct d (tk l k).p (x.f .nil)) k1
      | r => r)
    else if (tk l k).k = 2 then (match numV (tk l k).x with
      | none => some (.no (tk l k).p 40)
      | some (v, pl) => if 32 < d then some (.no (tk l k).p 41) else some (.ok ⟨1, [], v, pl, .nil, (tk l k).p⟩ (k + 1)))
    else if nmB (tk l k) = false then some (.no (tk l k).p 40)
    else if 32 < d then some (.no (tk l k).p 41)
    else if fx l (k + 1) = [91] then (match pE l f (.ex (d + 1)) (k + 1 + 1) with
      | some (.ok x k1) => if fx l k1 = [58] then (match pE l f (.ex (d + 1)) (k1 + 1) with
          | some (.ok y k2) => if fx l k2 = [93] then some (.ok ⟨4, (tk l k).x, [], false, x.f (y.f .nil), (tk l k).p⟩ (k2 + 1)) else some (.no (tk l k2).p 40)
          | r => r)
        else if fx l k1 = [93] then some (.ok ⟨3, (tk l k).x, [], false, x.f .nil, (tk l k).p⟩ (k1 + 1)) else some (.no (tk l k1).p 40)
      | r => r)
    else some (.ok ⟨2, (tk l k).x, [], false, .nil, (tk l k).p⟩ (k + 1))
  | f + 1, .ct d p a, k => if fx l k = [44] then (match pE l f (.ex (d + 1)) (k + 1) with
      | some (.ok y k1) => pE l f (.ct d p (a.snoc y)) k1
      | r => r)
    else if fx l k = [125] then some (.ok ⟨5, [], [], false, a, p⟩ (k + 1)) else some (.no (tk l k).p 40)
end Lg

/- Layer 3, plain: what directives make of tokens. No program in sight. -/
namespace Lg
open Go
def ifdW : List UInt8 := [105, 102, 100, 101, 102]
def ifnW : List UInt8 := [105, 102, 110, 100, 101, 102]
def elsW : List UInt8 := [101, 108, 115, 101]
def endW : List UInt8 := [101, 110, 100, 105, 102]
def undW : List UInt8 := [117, 110, 100, 101, 102]
/-- ifdef, ifndef, else, endif -/
def splB (x : List UInt8) : Bool := x == ifdW || x == ifnW || x == elsW || x == endW
def dirB (x : List UInt8) : Bool := splB x || x == defW || x == undW
structure Br where
  p : Nat
  a : Bool
  k : Bool
  t : Bool
def Nm := List UInt8 → Option (List Tok)
def Nm.put (n : Nm) (x : List UInt8) (b : List Tok) : Nm := fun y => if y = x then some b else n y
def Nm.del (n : Nm) (x : List UInt8) : Nm := fun y => if y = x then none else n y
structure Ps where
  n : Nm
  o : List Br
  kp : List Tok
def kpB (o : List Br) : Bool := match o.getLast? with | none => true | some b => b.k
/-- what a use's name stands for -/
def stn (n : Nm) (x : List UInt8) : Option (List Tok) := if dirB x then none else n x
inductive Ex where
  | no (e : Int)
  | ok (l : List Tok)
def Ex.cons (t : Tok) : Ex → Ex
  | .ok l => .ok (t :: l)
  | r => r
def Ex.app (a : List Tok) : Ex → Ex
  | .ok l => .ok (a ++ l)
  | r => r
/-- what comes of tokens, so many being allowed -/
def exW (n : Nm) (p : Nat) : Nat → List Tok → Ex
  | _, [] => .ok []
  | 0, t :: _ => if t.k = 4 ∧ stn n t.x = none then .no 30 else .no 31
  | f + 1, t :: ts => if t.k = 4 then (match stn n t.x with | none => .no 30 | some b => exW n p f (b ++ ts)) else Ex.cons ⟨t.k, t.x, p⟩ (exW n p f ts)
/-- one step: why it may not be; or how many tokens are passed by besides, and what is then -/
inductive Po where
  | no (p : Nat) (e : Int)
  | go (m : Nat) (s : Ps)
def nameAt (r : List Tok) : Option (List UInt8) := match r with | [] => none | t :: _ => if t.k = 1 then some t.x else none
def splP (t : Tok) (r : List Tok) (s : Ps) : Po :=
  if t.x = elsW then (match s.o.getLast? with | none => .no t.p 30 | some b => if b.t then .no t.p 30 else .go 0 { s with o := s.o.dropLast ++ [⟨b.p, b.a, b.a && !b.k, true⟩] })
  else if t.x = endW then (if s.o = [] then .no t.p 30 else .go 0 { s with o := s.o.dropLast })
  else match nameAt r with
    | none => .no t.p 30
    | some x => .go 1 { s with o := s.o ++ [⟨t.p, kpB s.o, kpB s.o && ((s.n x).isSome == (t.x == ifdW)), false⟩] }
def notL (t : Tok) : Bool := t.k != 5
def keepP (l : List Tok) (p : Nat) (s : Ps) : Po := if 16384 < s.kp.length + l.length then .no p 2 else .go 0 { s with kp := s.kp ++ l }
def useP (t : Tok) (s : Ps) : Po := match stn s.n t.x with
  | none => .no t.p 30
  | some b => match exW s.n t.p 4096 b with
    | .no e => .no t.p e
    | .ok l => keepP l t.p s
def tckP (t : Tok) (r : List Tok) (s : Ps) : Po :=
  if t.x = defW then (match nameAt r with | none => .no t.p 30 | some x => .go (1 + (r.tail.takeWhile notL).length) { s with n := s.n.put x (r.tail.takeWhile notL) })
  else if t.x = undW then (match nameAt r with | none => .no t.p 30 | some x => .go 1 { s with n := s.n.del x })
  else useP t s
def stpP (t : Tok) (r : List Tok) (s : Ps) : Po :=
  if t.k = 4 ∧ splB t.x = true then splP t r s
  else if kpB s.o = false then .go 0 s
  else if t.k = 4 then tckP t r s
  else if t.k = 5 then .go 0 s
  else keepP [t] t.p s
inductive Pr where
  | no (p : Nat) (e : Int)
  | ok (l : List Tok)
def runP (e : Tok) : List Tok → Ps → Pr
  | [], s => match s.o with | [] => .ok (s.kp ++ [e]) | b :: _ => .no b.p 30
  | t :: r, s => match stpP t r s with
    | .no p c => .no p c
    | .go m s2 => runP e (r.drop m) s2
  termination_by l => l.length
  decreasing_by simp; omega
def ps0 : Ps := ⟨fun _ => none, [], []⟩
/-- what a run tells of tokens -/
def preL (l : List Tok) : Pr := if l = [] then .ok [] else if 16385 < l.length then .no ((l[16384]?.map Tok.p).getD 0) 2 else runP (l.getLastD ⟨0, [], 0⟩) l.dropLast ps0
theorem runP_nil (e : Tok) (s : Ps) (h : s.o = []) : runP e [] s = .ok (s.kp ++ [e]) := by rw [runP, h]
theorem runP_open (e : Tok) (s : Ps) (b : Br) (o : List Br) (h : s.o = b :: o) : runP e [] s = .no b.p 30 := by rw [runP, h]
theorem runP_no {e : Tok} {t : Tok} {r : List Tok} {s : Ps} {p : Nat} {c : Int} (h : stpP t r s = .no p c) : runP e (t :: r) s = .no p c := by rw [runP, h]
theorem runP_go {e : Tok} {t : Tok} {r : List Tok} {s s2 : Ps} {m : Nat} (h : stpP t r s = .go m s2) : runP e (t :: r) s = runP e (r.drop m) s2 := by rw [runP, h]
theorem exW_nil (n : Nm) (p f : Nat) : exW n p f [] = .ok [] := by cases f <;> rfl
theorem exW_full0 {n : Nm} {p : Nat} {t : Tok} {ts : List Tok} (h : ¬ (t.k = 4 ∧ stn n t.x = none)) : exW n p 0 (t :: ts) = .no 31 := by rw [exW, if_neg h]
theorem exW_bad {n : Nm} {p f : Nat} {t : Tok} {ts : List Tok} (h : t.k = 4) (h2 : stn n t.x = none) : exW n p f (t :: ts) = .no 30 := by
  cases f with
  | zero => rw [exW, if_pos ⟨h, h2⟩]
  | succ f => rw [exW, if_pos h, h2]
theorem exW_use {n : Nm} {p f : Nat} {t : Tok} {ts b : List Tok} (h : t.k = 4) (h2 : stn n t.x = some b) : exW n p (f + 1) (t :: ts) = exW n p f (b ++ ts) := by rw [exW, if_pos h, h2]
theorem exW_tok {n : Nm} {p f : Nat} {t : Tok} {ts : List Tok} (h : t.k ≠ 4) : exW n p (f + 1) (t :: ts) = Ex.cons ⟨t.k, t.x, p⟩ (exW n p f ts) := by rw [exW, if_neg h]
theorem ex_app_nil (x : Ex) : Ex.app [] x = x := by cases x <;> rfl
theorem ex_app_app (a b : List Tok) (x : Ex) : Ex.app a (Ex.app b x) = Ex.app (a ++ b) x := by cases x <;> simp [Ex.app]
theorem ex_cons (t : Tok) (x : Ex) : Ex.cons t x = Ex.app [t] x := by cases x <;> rfl
end Lg

/- Layer 3, plain: what comes of a use, call by call. -/
namespace Lg
open Go
inductive Ec where
  | no (e : Int)
  | ok (f : Nat) (l : List Tok)
def Ec.app (a : List Tok) : Ec → Ec
  | .ok f l => .ok f (a ++ l)
  | r => r
def Ec.bind (r : Ec) (g : Nat → Ec) : Ec := match r with | .no e => .no e | .ok f a => Ec.app a (g f)
/-- what comes of tokens, so many being allowed: as many as are left, and the tokens. k: a bound that is great enough -/
def exK (n : Nm) (p : Nat) : Nat → Nat → List Tok → Ec
  | _, f, [] => .ok f []
  | 0, _, t :: _ => if t.k = 4 ∧ stn n t.x = none then .no 30 else .no 31
  | _ + 1, 0, t :: _ => if t.k = 4 ∧ stn n t.x = none then .no 30 else .no 31
  | k + 1, f + 1, t :: ts => if t.k = 4 then (match stn n t.x with | none => .no 30 | some b => (exK n p k f b).bind fun f' => exK n p k f' ts) else Ec.app [⟨t.k, t.x, p⟩] (exK n p k f ts)
theorem exK_nil (n : Nm) (p k f : Nat) : exK n p k f [] = .ok f [] := by cases k <;> simp [exK]
theorem exK_le {n : Nm} {p : Nat} : ∀ (k f : Nat) (l : List Tok) (f' : Nat) (a : List Tok), exK n p k f l = .ok f' a → f' + a.length ≤ f := by
  intro k
  induction k with
  | zero =>
    intro f l f' a h
    cases l with
    | nil => rw [exK_nil] at h; injection h with h1 h2; subst h1 h2; simp
    | cons t ts => rw [exK] at h; split at h <;> cases h
  | succ k ih =>
    intro f l f' a h
    cases l with
    | nil => rw [exK_nil] at h; injection h with h1 h2; subst h1 h2; simp
    | cons t ts =>
      cases f with
      | zero => rw [exK] at h; split at h <;> cases h
      | succ f =>
        rw [exK] at h
        split at h
        · cases hs : stn n t.x with
          | none => rw [hs] at h; cases h
          | some b =>
            rw [hs] at h
            simp only at h
            cases h1 : exK n p k f b with
            | no e => rw [h1] at h; cases h
            | ok f1 a1 =>
              rw [h1] at h
              simp only [Ec.bind] at h
              cases h2 : exK n p k f1 ts with
              | no e => rw [h2] at h; cases h
              | ok f2 a2 =>
                rw [h2] at h
                simp only [Ec.app] at h
                injection h with e1 e2
                subst e1 e2
                have := ih _ _ _ _ h1
                have := ih _ _ _ _ h2
                simp; omega
        · cases h2 : exK n p k f ts with
          | no e => rw [h2] at h; cases h
          | ok f2 a2 =>
            rw [h2] at h
            simp only [Ec.app] at h
            injection h with e1 e2
            subst e1 e2
            have := ih _ _ _ _ h2
            simp; omega
theorem exK_mono {n : Nm} {p : Nat} : ∀ (k f : Nat) (l : List Tok), f ≤ k → exK n p (k + 1) f l = exK n p k f l := by
  intro k
  induction k with
  | zero =>
    intro f l h
    obtain rfl : f = 0 := by omega
    cases l with
    | nil => rw [exK_nil, exK_nil]
    | cons t ts => rw [exK, exK]
  | succ k ih =>
    intro f l h
    cases l with
    | nil => rw [exK_nil, exK_nil]
    | cons t ts =>
      cases f with
      | zero => rw [exK, exK]
      | succ f =>
        rw [exK]
        conv => rhs; rw [exK]
        split
        · cases hs : stn n t.x with
          | none => rfl
          | some b =>
            simp only
            rw [ih f b (by omega)]
            cases h1 : exK n p k f b with
            | no e => rfl
            | ok f1 a1 =>
              have := exK_le k f b f1 a1 h1
              simp only [Ec.bind]
              rw [ih f1 ts (by omega)]
        · rw [ih f ts (by omega)]
theorem exK_any {n : Nm} {p : Nat} (f : Nat) (l : List Tok) : ∀ d, exK n p (f + d) f l = exK n p f f l := by
  intro d
  induction d with
  | zero => rfl
  | succ d ih => rw [← ih]; exact exK_mono (f + d) f l (by omega)
def eC (n : Nm) (p f : Nat) (l : List Tok) : Ec := exK n p f f l
theorem eC_nil (n : Nm) (p f : Nat) : eC n p f [] = .ok f [] := exK_nil _ _ _ _
theorem eC_full {n : Nm} {p : Nat} {t : Tok} {ts : List Tok} (h : t.k ≠ 4 ∨ stn n t.x ≠ none) : eC n p 0 (t :: ts) = .no 31 := by
  unfold eC; rw [exK, if_neg]; rintro ⟨h1, h2⟩; rcases h with h | h
  · exact h h1
  · exact h h2
theorem eC_bad {n : Nm} {p f : Nat} {t : Tok} {ts : List Tok} (h : t.k = 4) (h2 : stn n t.x = none) : eC n p f (t :: ts) = .no 30 := by
  unfold eC
  cases f with
  | zero => rw [exK, if_pos ⟨h, h2⟩]
  | succ f => rw [exK, if_pos h, h2]
theorem eC_use {n : Nm} {p f : Nat} {t : Tok} {ts b : List Tok} (h : t.k = 4) (h2 : stn n t.x = some b) : eC n p (f + 1) (t :: ts) = (eC n p f b).bind fun f' => eC n p f' ts := by
  unfold eC
  rw [exK, if_pos h, h2]
  simp only
  cases h1 : exK n p f f b with
  | no e => rfl
  | ok f1 a1 =>
    have := exK_le f f b f1 a1 h1
    simp only [Ec.bind]
    obtain ⟨d, rfl⟩ : ∃ d, f = f1 + d := ⟨f - f1, by omega⟩
    rw [exK_any]
theorem eC_tok {n : Nm} {p f : Nat} {t : Tok} {ts : List Tok} (h : t.k ≠ 4) : eC n p (f + 1) (t :: ts) = Ec.app [⟨t.k, t.x, p⟩] (eC n p f ts) := by
  unfold eC; rw [exK, if_neg h]
theorem eC_le {n : Nm} {p f f' : Nat} {l a : List Tok} (h : eC n p f l = .ok f' a) : f' + a.length ≤ f := exK_le _ _ _ _ _ h
theorem ec_app_nil (x : Ec) : Ec.app [] x = x := by cases x <;> rfl
theorem ec_app_app (a b : List Tok) (x : Ec) : Ec.app a (Ec.app b x) = Ec.app (a ++ b) x := by cases x <;> simp [Ec.app]
/-- the same, token by token -/
theorem exW_eC {n : Nm} {p : Nat} : ∀ (f : Nat) (l rest : List Tok), exW n p f (l ++ rest) = match eC n p f l with | .no e => .no e | .ok f' a => Ex.app a (exW n p f' rest) := by
  intro f
  induction f using Nat.strongRecOn with
  | ind f ih =>
    intro l rest
    cases l with
    | nil => rw [eC_nil]; simp [ex_app_nil]
    | cons t ts =>
      rw [List.cons_append]
      cases f with
      | zero =>
        by_cases h : t.k = 4 ∧ stn n t.x = none
        · rw [exW_bad h.1 h.2, eC_bad h.1 h.2]
        · rw [exW_full0 h, eC_full (if h1 : t.k = 4 then Or.inr (fun h2 => h ⟨h1, h2⟩) else Or.inl h1)]
      | succ f =>
        by_cases h1 : t.k = 4
        · cases hs : stn n t.x with
          | none => rw [exW_bad h1 hs, eC_bad h1 hs]
          | some b =>
            rw [exW_use h1 hs, eC_use h1 hs, ih f (by omega) b (ts ++ rest)]
            cases hb : eC n p f b with
            | no e => rfl
            | ok f1 a1 =>
              have := eC_le hb
              simp only [Ec.bind]
              rw [ih f1 (by omega) ts rest]
              cases ht : eC n p f1 ts with
              | no e => rfl
              | ok f2 a2 => simp only [Ec.app]; rw [ex_app_app]
        · rw [exW_tok h1, eC_tok h1, ih f (by omega) ts rest, ex_cons]
          cases ht : eC n p f ts with
          | no e => rfl
          | ok f2 a2 => simp only [Ec.app]; rw [ex_app_app]
theorem exW_all {n : Nm} {p f : Nat} {l : List Tok} : exW n p f l = match eC n p f l with | .no e => .no e | .ok _ a => .ok a := by
  have := exW_eC (n := n) (p := p) f l []
  rw [List.append_nil] at this
  rw [this]
  cases eC n p f l with
  | no e => rfl
  | ok f' a => simp only; rw [exW_nil]; simp [Ex.app]
end Lg

/- Layer 3, plain: tokens without ticks stay; what comes has none; where the reasons are; what each directive does. -/
namespace Lg
open Go
set_option linter.unusedVariables false
set_option linter.unusedSimpArgs false
def cln (t : Tok) : Prop := t.k ≠ 4 ∧ t.k ≠ 5
theorem stpP_cln {t : Tok} {r : List Tok} {s : Ps} (h : cln t) : stpP t r s = if kpB s.o = false then .go 0 s else keepP [t] t.p s := by
  unfold stpP
  rw [if_neg (fun e => h.1 e.1)]
  split
  · rfl
  · rw [if_neg h.1, if_neg h.2]
theorem runP_in (e : Tok) : ∀ (X rest : List Tok) (s : Ps), (∀ t ∈ X, cln t) → kpB s.o = true → s.kp.length + X.length ≤ 16384 → runP e (X ++ rest) s = runP e rest { s with kp := s.kp ++ X } := by
  intro X
  induction X with
  | nil => intro rest s _ _ _; simp
  | cons t X ih =>
    intro rest s h hk hl
    rw [List.length_cons] at hl
    have h1 : stpP t (X ++ rest) s = .go 0 { s with kp := s.kp ++ [t] } := by
      rw [stpP_cln (h t (by simp)), if_neg (by rw [hk]; simp)]
      unfold keepP
      rw [if_neg (by simp; omega)]
    have h2 := ih rest { s with kp := s.kp ++ [t] } (fun u hu => h u (by simp [hu])) hk (by simp; omega)
    rw [List.cons_append, runP_go h1, List.drop_zero, h2]
    simp
theorem runP_out (e : Tok) : ∀ (X rest : List Tok) (s : Ps), (∀ t ∈ X, cln t) → kpB s.o = false → runP e (X ++ rest) s = runP e rest s := by
  intro X
  induction X with
  | nil => intro rest s _ _; simp
  | cons t X ih =>
    intro rest s h hk
    have h1 : stpP t (X ++ rest) s = .go 0 s := by rw [stpP_cln (h t (by simp)), if_pos hk]
    rw [List.cons_append, runP_go h1, List.drop_zero, ih rest _ (fun u hu => h u (by simp [hu])) hk]
theorem runP_plain (e : Tok) (X : List Tok) (h : ∀ t ∈ X, cln t) (hl : X.length ≤ 16384) : runP e X ps0 = .ok (X ++ [e]) := by
  have := runP_in e X [] ps0 h rfl (by show 0 + X.length ≤ _; omega)
  rw [List.append_nil] at this
  rw [this, runP_nil _ _ rfl]
  simp [ps0]
/-- what a run keeps to; S: all tokens -/
structure POk (S : List Tok) (s : Ps) : Prop where
  kp : ∀ t ∈ s.kp, cln t ∧ t.x.length ≤ 65536
  len : s.kp.length ≤ 16384
  nm : ∀ x b, s.n x = some b → ∀ t ∈ b, t.k ≠ 5 ∧ t.x.length ≤ 65536
  op : ∀ b ∈ s.o, ∃ t ∈ S, t.p = b.p
theorem pok0 (S : List Tok) : POk S ps0 := ⟨fun t h => (by cases h), Nat.zero_le _, fun x b h => (by cases h), fun b h => (by cases h)⟩
theorem stn_some {n : Nm} {x : List UInt8} {b : List Tok} (h : stn n x = some b) : n x = some b := by
  unfold stn at h
  split at h
  · cases h
  · exact h
theorem exW_cln {n : Nm} {p : Nat} (hn : ∀ x b, n x = some b → ∀ t ∈ b, t.k ≠ 5 ∧ t.x.length ≤ 65536) : ∀ (f : Nat) (l a : List Tok), (∀ t ∈ l, t.k ≠ 5 ∧ t.x.length ≤ 65536) → exW n p f l = .ok a → ∀ t ∈ a, cln t ∧ t.x.length ≤ 65536 := by
  intro f
  induction f with
  | zero =>
    intro l a hl h
    cases l with
    | nil => rw [exW_nil] at h; injection h with h; subst h; intro t ht; cases ht
    | cons t ts => rw [exW] at h; split at h <;> cases h
  | succ f ih =>
    intro l a hl h
    cases l with
    | nil => rw [exW_nil] at h; injection h with h; subst h; intro t ht; cases ht
    | cons t ts =>
      rw [exW] at h
      split at h
      · cases hs : stn n t.x with
        | none => rw [hs] at h; cases h
        | some b =>
          rw [hs] at h
          simp only at h
          refine ih (b ++ ts) a (fun u hu => ?_) h
          rcases List.mem_append.1 hu with hu | hu
          · exact hn _ _ (stn_some hs) u hu
          · exact hl u (by simp [hu])
      · rename_i h4
        cases h1 : exW n p f ts with
        | no e => rw [h1] at h; cases h
        | ok a1 =>
          rw [h1] at h
          injection h with h
          subst h
          intro u hu
          rcases List.mem_cons.1 hu with rfl | hu
          · exact ⟨⟨h4, (hl t (by simp)).1⟩, (hl t (by simp)).2⟩
          · exact ih ts a1 (fun v hv => hl v (by simp [hv])) h1 u hu
/-- what a step comes to -/
def PoOk (S : List Tok) : Po → Prop
  | .no p _ => ∃ t ∈ S, t.p = p
  | .go _ s => POk S s
theorem keepP_ok {S l : List Tok} {p : Nat} {s : Ps} (hs : POk S s) (hp : ∃ t ∈ S, t.p = p) (hl : ∀ t ∈ l, cln t ∧ t.x.length ≤ 65536) : PoOk S (keepP l p s) := by
  unfold keepP
  split
  · exact hp
  · rename_i h
    refine ⟨fun t ht => ?_, by simp; omega, hs.nm, hs.op⟩
    rcases List.mem_append.1 ht with ht | ht
    · exact hs.kp t ht
    · exact hl t ht
theorem notL_tw {r : List Tok} : ∀ t ∈ r.takeWhile notL, t.k ≠ 5 := by
  induction r with
  | nil => intro t ht; cases ht
  | cons u r ih =>
    intro t ht
    rw [List.takeWhile_cons] at ht
    split at ht
    · rename_i hu
      rcases List.mem_cons.1 ht with rfl | ht
      · simpa [notL] using hu
      · exact ih t ht
    · cases ht
theorem stpP_ok {S : List Tok} {t : Tok} {r : List Tok} {s : Ps} (hs : POk S s) (ht : t ∈ S) (hr : ∀ u ∈ r, u ∈ S) (hS : ∀ u ∈ S, u.x.length ≤ 65536) : PoOk S (stpP t r s) := by
  have hp : ∃ u ∈ S, u.p = t.p := ⟨t, ht, rfl⟩
  unfold stpP
  split
  · unfold splP
    split
    · cases hg : s.o.getLast? with
      | none => exact hp
      | some b =>
        simp only
        split
        · exact hp
        · have hb : b ∈ s.o := List.mem_of_getLast? hg
          refine ⟨hs.kp, hs.len, hs.nm, fun c hc => ?_⟩
          rcases List.mem_append.1 hc with hc | hc
          · exact hs.op c (List.dropLast_subset _ hc)
          · rw [List.mem_singleton] at hc; subst hc; exact hs.op b hb
    split
    · split
      · exact hp
      · exact ⟨hs.kp, hs.len, hs.nm, fun c hc => hs.op c (List.dropLast_subset _ hc)⟩
    · cases hn : nameAt r with
      | none => exact hp
      | some x =>
        refine ⟨hs.kp, hs.len, hs.nm, fun c hc => ?_⟩
        rcases List.mem_append.1 hc with hc | hc
        · exact hs.op c hc
        · rw [List.mem_singleton] at hc; subst hc; exact hp
  split
  · exact hs
  split
  · unfold tckP
    split
    · cases hn : nameAt r with
      | none => exact hp
      | some x =>
        refine ⟨hs.kp, hs.len, fun y b hb => ?_, hs.op⟩
        simp only [Nm.put] at hb
        split at hb
        · injection hb with hb
          subst hb
          intro u hu
          refine ⟨notL_tw u hu, hS u (hr u ?_)⟩
          exact List.mem_of_mem_tail ((List.takeWhile_sublist _).subset hu)
        · exact hs.nm y b hb
    split
    · cases hn : nameAt r with
      | none => exact hp
      | some x =>
        refine ⟨hs.kp, hs.len, fun y b hb => ?_, hs.op⟩
        simp only [Nm.del] at hb
        split at hb
        · cases hb
        · exact hs.nm y b hb
    · unfold useP
      cases hn : stn s.n t.x with
      | none => exact hp
      | some b =>
        simp only
        cases hx : exW s.n t.p 4096 b with
        | no e => exact hp
        | ok l => exact keepP_ok hs hp (exW_cln hs.nm 4096 b l (hs.nm _ _ (stn_some hn)) hx)
  split
  · exact hs
  · rename_i h1 h2 h3 h4
    refine keepP_ok hs hp fun u hu => ?_
    rw [List.mem_singleton] at hu
    subst hu
    exact ⟨⟨h3, h4⟩, hS u ht⟩
def PrOk (S : List Tok) (e : Tok) : Pr → Prop
  | .no p _ => ∃ t ∈ S, t.p = p
  | .ok a => ∃ k, a = k ++ [e] ∧ (∀ t ∈ k, cln t ∧ t.x.length ≤ 65536) ∧ k.length ≤ 16384
theorem runP_ok {S : List Tok} (e : Tok) (hS : ∀ u ∈ S, u.x.length ≤ 65536) : ∀ (n : Nat) (src : List Tok) (s : Ps), src.length ≤ n → (∀ u ∈ src, u ∈ S) → POk S s → PrOk S e (runP e src s) := by
  intro n
  induction n with
  | zero =>
    intro src s hl hu hs
    obtain rfl : src = [] := List.length_eq_zero_iff.1 (by omega)
    cases ho : s.o with
    | nil => rw [runP_nil _ _ ho]; exact ⟨_, rfl, hs.kp, hs.len⟩
    | cons b o => rw [runP_open _ _ _ _ ho]; exact hs.op b (by rw [ho]; simp)
  | succ n ih =>
    intro src s hl hu hs
    cases src with
    | nil =>
      cases ho : s.o with
      | nil => rw [runP_nil _ _ ho]; exact ⟨_, rfl, hs.kp, hs.len⟩
      | cons b o => rw [runP_open _ _ _ _ ho]; exact hs.op b (by rw [ho]; simp)
    | cons t r =>
      have h1 := stpP_ok (t := t) (r := r) hs (hu t (by simp)) (fun u hh => hu u (by simp [hh])) hS
      cases hq : stpP t r s with
      | no p c => rw [runP_no hq]; rw [hq] at h1; exact h1
      | go m s2 =>
        rw [runP_go hq]
        rw [hq] at h1
        rw [List.length_cons] at hl
        exact ih _ s2 (by rw [List.length_drop]; omega) (fun u hh => hu u (by simp [List.mem_of_mem_drop hh])) h1
def tkB (t : Tok) : Bool := t.k == 4 || t.k == 5
def tkd (l : List Tok) : Bool := l.any tkB
theorem tkd_no {l : List Tok} (h : tkd l = false) : ∀ t ∈ l, cln t := by
  intro t ht
  have := List.any_eq_false.1 h t ht
  simp [tkB] at this
  exact this
theorem tkd_yes {l : List Tok} (h : ∀ t ∈ l, cln t) : tkd l = false := by
  refine List.any_eq_false.2 fun t ht => ?_
  obtain ⟨h1, h2⟩ := h t ht
  simp [tkB, h1, h2]
/-- a define -/
theorem runP_def (e : Tok) (p q z : Nat) (x : List UInt8) (body r : List Tok) (s : Ps) (hk : kpB s.o = true) (hb : ∀ t ∈ body, t.k ≠ 5) :
    runP e (⟨4, defW, p⟩ :: ⟨1, x, q⟩ :: (body ++ ⟨5, [], z⟩ :: r)) s = runP e r { s with n := s.n.put x body } := by
  have htw : (body ++ (⟨5, [], z⟩ : Tok) :: r).takeWhile notL = body := by
    rw [List.takeWhile_append_of_pos (by intro t ht; have := hb t ht; simp [notL, this])]
    rw [List.takeWhile_cons, if_neg (by simp [notL])]
    simp
  have h1 : stpP ⟨4, defW, p⟩ (⟨1, x, q⟩ :: (body ++ ⟨5, [], z⟩ :: r)) s = .go (1 + body.length) { s with n := s.n.put x body } := by
    unfold stpP
    rw [if_neg (by simp [splB, defW, ifdW, ifnW, elsW, endW]), if_neg (by rw [hk]; simp), if_pos rfl]
    unfold tckP
    rw [if_pos rfl]
    simp only [nameAt, if_true, List.tail_cons]
    rw [htw]
  have h2 : stpP ⟨5, [], z⟩ r { s with n := s.n.put x body } = .go 0 { s with n := s.n.put x body } := by
    unfold stpP
    rw [if_neg (by simp), if_neg (by show ¬ kpB s.o = false; rw [hk]; simp), if_neg (by simp), if_pos rfl]
  rw [runP_go h1, Nat.add_comm 1, List.drop_succ_cons, List.drop_left, runP_go h2, List.drop_zero]
theorem runP_ifd (e : Tok) (p q : Nat) (x : List UInt8) (r : List Tok) (s : Ps) :
    runP e (⟨4, ifdW, p⟩ :: ⟨1, x, q⟩ :: r) s = runP e r { s with o := s.o ++ [⟨p, kpB s.o, kpB s.o && (s.n x).isSome, false⟩] } := by
  have h1 : stpP ⟨4, ifdW, p⟩ (⟨1, x, q⟩ :: r) s = .go 1 { s with o := s.o ++ [⟨p, kpB s.o, kpB s.o && (s.n x).isSome, false⟩] } := by
    unfold stpP
    rw [if_pos ⟨rfl, rfl⟩]
    unfold splP
    rw [if_neg (show ¬ ifdW = elsW by decide), if_neg (show ¬ ifdW = endW by decide)]
    simp only [nameAt, if_true]
    simp
  rw [runP_go h1]; rfl
theorem runP_els (e : Tok) (p : Nat) (r : List Tok) (s : Ps) (o : List Br) (b : Br) (ho : s.o = o ++ [b]) (hb : b.t = false) :
    runP e (⟨4, elsW, p⟩ :: r) s = runP e r { s with o := o ++ [⟨b.p, b.a, b.a && !b.k, true⟩] } := by
  have h1 : stpP ⟨4, elsW, p⟩ r s = .go 0 { s with o := o ++ [⟨b.p, b.a, b.a && !b.k, true⟩] } := by
    unfold stpP
    rw [if_pos ⟨rfl, rfl⟩]
    unfold splP
    rw [if_pos rfl, ho]
    simp [hb]
  rw [runP_go h1]; rfl
theorem runP_end (e : Tok) (p : Nat) (r : List Tok) (s : Ps) (o : List Br) (b : Br) (ho : s.o = o ++ [b]) :
    runP e (⟨4, endW, p⟩ :: r) s = runP e r { s with o := o } := by
  have h1 : stpP ⟨4, endW, p⟩ r s = .go 0 { s with o := o } := by
    unfold stpP
    rw [if_pos ⟨rfl, rfl⟩]
    unfold splP
    rw [if_neg (show ¬ endW = elsW by decide), if_pos rfl, ho]
    simp
  rw [runP_go h1]; rfl
theorem kpB_app (o : List Br) (b : Br) : kpB (o ++ [b]) = b.k := by unfold kpB; simp
theorem stpP_use {p : Nat} {x : List UInt8} {r : List Tok} {s : Ps} (hk : kpB s.o = true) (hd : dirB x = false) : stpP ⟨4, x, p⟩ r s = useP ⟨4, x, p⟩ s := by
  have h1 : splB x = false ∧ x ≠ defW ∧ x ≠ undW := by
    simp only [dirB, Bool.or_eq_false_iff, beq_eq_false_iff_ne] at hd
    exact ⟨hd.1.1, hd.1.2, hd.2⟩
  unfold stpP
  rw [if_neg (by rw [h1.1]; simp), if_neg (by rw [hk]; simp), if_pos rfl]
  unfold tckP
  rw [if_neg h1.2.1, if_neg h1.2.2]
/-- what the parts of a text come to: the first where the name stands for something, the second where not -/
theorem runP_parts (e : Tok) (X Y : List Tok) (s : Ps) (p q p2 p3 : Nat) (x : List UInt8) (ho : s.o = []) (hk : s.kp = []) (hX : ∀ t ∈ X, cln t) (hY : ∀ t ∈ Y, cln t) (hl : X.length ≤ 16384 ∧ Y.length ≤ 16384) :
    runP e (⟨4, ifdW, p⟩ :: ⟨1, x, q⟩ :: (X ++ ⟨4, elsW, p2⟩ :: (Y ++ [⟨4, endW, p3⟩]))) s = .ok ((if (s.n x).isSome then X else Y) ++ [e]) := by
  rw [runP_ifd, ho]
  simp only [List.nil_append]
  have hk0 : kpB [] = true := rfl
  rw [hk0, Bool.true_and]
  cases hn : (s.n x).isSome with
  | true =>
    rw [runP_in e X _ _ hX rfl (by rw [hk]; simp; omega), runP_els e p2 _ _ [] ⟨p, true, true, false⟩ rfl rfl]
    rw [runP_out e Y _ _ hY rfl, runP_end e p3 _ _ [] _ rfl, runP_nil _ _ rfl]
    simp [hk]
  | false =>
    rw [runP_out e X _ _ hX rfl, runP_els e p2 _ _ [] ⟨p, true, false, false⟩ rfl rfl]
    rw [runP_in e Y _ _ hY rfl (by rw [hk]; simp; omega), runP_end e p3 _ _ [] _ rfl, runP_nil _ _ rfl]
    simp [hk]
/-- a name that stands for itself -/
theorem exW_self {n : Nm} {p : Nat} {t : Tok} (h4 : t.k = 4) (hs : stn n t.x = some [t]) : ∀ f, exW n p f [t] = .no 31 := by
  intro f
  induction f with
  | zero => exact exW_full0 (by rw [hs]; simp)
  | succ f ih => rw [exW_use h4 hs]; exact ih
/-- names that stand for two of the name before each -/
theorem dbl_ok {N : Nm} {nm : Nat → List UInt8} {m : Nat} (h0 : ∃ q, stn N (nm 0) = some [⟨1, [120], q⟩]) (hs : ∀ j, j < m → ∃ q1 q2, stn N (nm (j + 1)) = some [⟨4, nm j, q1⟩, ⟨4, nm j, q2⟩]) (p : Nat) :
    ∀ j, j ≤ m → ∀ b, stn N (nm j) = some b → ∀ f, (3 * 2 ^ j - 2 ≤ f → eC N p f b = .ok (f - (3 * 2 ^ j - 2)) (List.replicate (2 ^ j) ⟨1, [120], p⟩)) ∧ (f < 3 * 2 ^ j - 2 → eC N p f b = .no 31) := by
  intro j
  induction j with
  | zero =>
    intro _ b hb f
    obtain ⟨q, h0⟩ := h0
    rw [h0] at hb
    injection hb with hb
    subst hb
    cases f with
    | zero => exact ⟨fun h => by simp at h, fun _ => eC_full (Or.inl (show (1 : Int) ≠ 4 by decide))⟩
    | succ f =>
      refine ⟨fun _ => ?_, fun h => by simp at h⟩
      rw [eC_tok (show (1 : Int) ≠ 4 by decide), eC_nil]; simp [Ec.app]
  | succ j ih =>
    intro hj b hb f
    obtain ⟨q1, q2, h1⟩ := hs j (by omega)
    rw [h1] at hb
    injection hb with hb
    subst hb
    obtain ⟨bj, hbj⟩ : ∃ bj, stn N (nm j) = some bj := by
      cases j with
      | zero => obtain ⟨q, h0⟩ := h0; exact ⟨_, h0⟩
      | succ i => obtain ⟨a1, a2, h2⟩ := hs i (by omega); exact ⟨_, h2⟩
    have IH := ih (by omega) bj hbj
    have hpow : 2 ^ (j + 1) = 2 ^ j + 2 ^ j := by rw [Nat.pow_succ]; omega
    have hp1 : 1 ≤ 2 ^ j := Nat.one_le_two_pow
    obtain ⟨c, hc⟩ : ∃ c, c = 3 * 2 ^ j - 2 := ⟨_, rfl⟩
    have hc2 : 3 * 2 ^ (j + 1) - 2 = 2 * c + 2 := by rw [hpow, hc]; omega
    rw [hc2]
    rw [← hc] at IH
    have hrep : List.replicate (2 ^ (j + 1)) (⟨1, [120], p⟩ : Tok) = List.replicate (2 ^ j) ⟨1, [120], p⟩ ++ List.replicate (2 ^ j) ⟨1, [120], p⟩ := by rw [hpow, List.replicate_append_replicate]
    cases f with
    | zero => exact ⟨fun h => by omega, fun _ => eC_full (Or.inr (by show stn N (nm j) ≠ none; rw [hbj]; simp))⟩
    | succ f =>
      rw [eC_use (b := bj) rfl hbj]
      by_cases hf : f < c
      · rw [(IH f).2 hf]
        exact ⟨fun h => by omega, fun _ => rfl⟩
      · rw [(IH f).1 (by omega)]
        simp only [Ec.bind]
        obtain ⟨g, hg⟩ : ∃ g, f - c = g := ⟨_, rfl⟩
        rw [hg]
        cases g with
        | zero =>
          rw [eC_full (Or.inr (by show stn N (nm j) ≠ none; rw [hbj]; simp))]
          exact ⟨fun h => by omega, fun _ => rfl⟩
        | succ g =>
          rw [eC_use (b := bj) rfl hbj]
          by_cases hg2 : g < c
          · rw [(IH g).2 hg2]
            exact ⟨fun h => by omega, fun _ => rfl⟩
          · rw [(IH g).1 (by omega)]
            simp only [Ec.bind, eC_nil, Ec.app, List.append_nil]
            refine ⟨fun h => ?_, fun h => by omega⟩
            rw [hrep, show f + 1 - (2 * c + 2) = g - c by omega]
end Lg

/- Layers 2 and 3, plain: a source's tokens told by a program with a bound; sources one behind the other; the texts that the statements make. -/
namespace Lg
open Go
set_option linter.unusedVariables false
set_option linter.unusedSimpArgs false
/-- the same with a bound -/
def lexF : Nat → Nat → List UInt8 → Bool → Nat → Option (List Tok)
  | _, _, [], _, _ => some []
  | 0, _, _ :: _, _, _ => none
  | f + 1, p, c :: r, df, n => match stp df c r with
    | .skip m => lexF f (p + m) ((c :: r).drop m) df n
    | .err _ => none
    | .tk k x m => if n = 16384 then none else (lexF f (p + m) ((c :: r).drop m) (dfN df k x) (n + 1)).map (⟨k, x, p⟩ :: ·)
theorem lexF_ok : ∀ (f p : Nat) (l : List UInt8) (df : Bool) (n : Nat) (a : List Tok), lexF f p l df n = some a → lexG p l df n = .toks a := by
  intro f
  induction f with
  | zero =>
    intro p l df n a h
    cases l with
    | nil => rw [lexF] at h; injection h with h; subst h; exact lexG_nil _ _ _
    | cons c r => rw [lexF] at h; cases h
  | succ f ih =>
    intro p l df n a h
    cases l with
    | nil => rw [lexF] at h; injection h with h; subst h; exact lexG_nil _ _ _
    | cons c r =>
      rw [lexF] at h
      cases hq : stp df c r with
      | skip m => rw [hq] at h; rw [lexG_skip hq]; exact ih _ _ _ _ _ h
      | err e => rw [hq] at h; cases h
      | tk k x m =>
        rw [hq] at h
        simp only at h
        split at h
        · cases h
        · rename_i hn
          cases h1 : lexF f (p + m) ((c :: r).drop m) (dfN df k x) (n + 1) with
          | none => rw [h1] at h; cases h
          | some b =>
            rw [h1] at h
            injection h with h
            subst h
            rw [lexG_tk hq hn, ih _ _ _ _ _ h1]; rfl
theorem lexL_of {l : List UInt8} {a : List Tok} (h : lexG 0 l false 0 = .toks a) (hl : l.length ≤ 65536) : lexL l = .toks (a ++ [⟨6, [], l.length⟩]) := by
  unfold lexL; rw [if_neg (by omega), h]
theorem lex_cat {l t : List UInt8} {A B : List Tok} (hl : nl l) (hA : lexG 0 l false 0 = .toks A) (hB : lexG 0 t false 0 = .toks B) (hn : A.length + B.length ≤ 16384) : lexG 0 (l ++ t) false 0 = .toks (A ++ B.map (shf l.length)) := by
  have h1 := lex_join l t hl _ 0 false 0 A (Nat.le_refl _) (Nat.zero_le _) (fun _ => rfl) (by omega) (by rw [List.drop_zero]; exact hA)
  have h2 := lex_shift l.length t.length t 0 false 0 A.length B (Nat.le_refl _) (by omega) hB
  rw [Nat.zero_add] at h2
  rw [List.drop_zero, Nat.zero_add, h2] at h1
  exact h1
theorem tw_nl {q : UInt8 → Bool} (hq : q 10 = false) (l : List UInt8) : (l ++ [10]).takeWhile q = l.takeWhile q := by
  induction l with
  | nil => simp [List.takeWhile_cons, hq]
  | cons c a ih =>
    simp only [List.cons_append, List.takeWhile_cons]
    cases q c with
    | false => rfl
    | true => simp only [if_true]; rw [ih]
theorem ixb_nl (l : List UInt8) : Lib.indexByte (l ++ [10]) 10 = if 0 ≤ Lib.indexByte l 10 then Lib.indexByte l 10 else (l.length : Int) := by
  induction l with
  | nil => simp [Lib.indexByte]
  | cons c a ih =>
    simp only [List.cons_append, Lib.indexByte]
    by_cases hc : c = 10
    · subst hc; simp
    · have h1 : (c == 10) = false := by simpa using hc
      simp only [h1, Bool.false_eq_true, if_false]
      rw [ih]
      have hle := ixb_le a 10
      by_cases h2 : 0 ≤ Lib.indexByte a 10
      · rw [if_pos h2]
        have h3 : (Lib.indexByte a 10 == -1) = false := by rw [beq_eq_false_iff_ne]; omega
        rw [h3]
        simp only [Bool.false_eq_true, if_false]
        rw [if_pos (by omega)]
      · rw [if_neg h2]
        have h3 : Lib.indexByte a 10 = -1 ∨ Lib.indexByte a 10 < -1 := by omega
        have hge := Lib.indexByte_ge a 10
        have h4 : Lib.indexByte a 10 = -1 := by omega
        rw [h4]
        have h5 : ((a.length : Int) == -1) = false := by rw [beq_eq_false_iff_ne]; omega
        rw [h5]
        simp
theorem comW_nl {c : UInt8} {r : List UInt8} (h0 : comW (c :: r) ≠ 0) : comW (c :: (r ++ [10])) = comW (c :: r) := by
  have hne : r ≠ [] := by
    rintro rfl
    refine h0 ?_
    unfold comW
    rw [if_neg (by simp [Lib.hasPrefix, List.isPrefixOf]), if_neg (by simp [Lib.hasPrefix, List.isPrefixOf])]
  unfold comW at h0 ⊢
  rw [hp_app 47 47 hne, hp_app 47 42 hne]
  by_cases g : Lib.hasPrefix (c :: r) [47, 47] = true
  · rw [if_pos g, if_pos g]
    rw [show c :: (r ++ [10]) = (c :: r) ++ [10] from rfl, ixb_nl]
    by_cases g2 : 0 ≤ Lib.indexByte (c :: r) 10
    · rw [if_pos g2, if_pos g2, if_pos g2]
    · rw [if_neg g2, if_pos (by omega), if_neg g2]; simp
  · rw [if_neg g] at h0 ⊢
    rw [if_neg g]
    by_cases g2 : Lib.hasPrefix (c :: r) [47, 42] = true
    · rw [if_pos g2] at h0 ⊢
      rw [if_pos g2]
      by_cases g3 : 0 ≤ Lib.index ((c :: r).drop 2) [42, 47]
      · have e : (c :: (r ++ [10])).drop 2 = (c :: r).drop 2 ++ [10] := by
          cases r with
          | nil => exact absurd rfl hne
          | cons d r => rfl
        rw [e, idx_app _ _ _ _ g3]
      · rw [if_neg g3] at h0; exact absurd rfl h0
    · rw [if_neg g2] at h0; exact absurd rfl h0
theorem stp_nl {df : Bool} {c : UInt8} {r : List UInt8} (hne : ∀ e, stp df c r ≠ .err e) : stp df c (r ++ [10]) = stp df c r := by
  unfold stp at hne ⊢
  by_cases n1 : c = 10 ∧ df = true
  · rw [if_pos n1, if_pos n1]
  · rw [if_neg n1] at hne ⊢
    rw [if_neg n1]
    by_cases h2 : kinds c = 24 ∨ kinds c = 8
    · rw [if_pos h2, if_pos h2]
    · rw [if_neg h2] at hne ⊢
      rw [if_neg h2]
      by_cases h3 : c = 47
      · rw [if_pos h3] at hne ⊢
        rw [if_pos h3]
        have h0 : comW (c :: r) ≠ 0 := fun e => by rw [if_pos e] at hne; exact hne _ rfl
        rw [comW_nl h0]
      · rw [if_neg h3] at hne ⊢
        rw [if_neg h3]
        by_cases h4 : c = 96
        · rw [if_pos h4] at hne ⊢
          rw [if_pos h4]
          have hrn : r ≠ [] := by rintro rfl; exact hne 20 (by unfold tickP; rw [if_pos (Or.inl rfl)])
          unfold tickP
          have hw2 : wordL (r ++ [10]) = wordL r := tw_nl word10 r
          rw [hw2, hd0_app2 hrn]
          have e1 : (r ++ [10] = [] ∨ letB (hd0 r) = false) ↔ (r = [] ∨ letB (hd0 r) = false) := by simp [hrn]
          simp only [e1]
        · rw [if_neg h4, if_neg h4]
          have hw2 : wordL (c :: (r ++ [10])) = wordL (c :: r) := tw_nl word10 (c :: r)
          have hw3 : numbL (c :: (r ++ [10])) = numbL (c :: r) := tw_nl numb10 (c :: r)
          have hw5 : sgW (c :: (r ++ [10])) = sgW (c :: r) := by
            cases r with
            | nil => unfold sgW; simp [twos]
            | cons d r => rfl
          have hw6 : (c :: (r ++ [10])).take (sgW (c :: r)) = (c :: r).take (sgW (c :: r)) := by
            have hle := (sgW_le (c := c) (r := r)).2
            rw [show c :: (r ++ [10]) = (c :: r) ++ [10] from rfl, List.take_append_of_le_length hle]
          rw [hw2, hw3, hw5, hw6]
/-- a newline behind tokens without ticks is nothing -/
theorem lex_nl : ∀ (f : Nat) (l : List UInt8) (p n : Nat) (A : List Tok), l.length ≤ f → lexG p l false n = .toks A → (∀ t ∈ A, cln t) → lexG p (l ++ [10]) false n = .toks A := by
  have base : ∀ p n, lexG p [10] false n = .toks [] := fun p n => by rw [lexG_skip (m := 1) rfl]; exact lexG_nil _ _ _
  intro f
  induction f with
  | zero =>
    intro l p n A hf h hc
    obtain rfl : l = [] := List.length_eq_zero_iff.1 (by omega)
    rw [lexG_nil] at h; injection h with h; subst h; exact base p n
  | succ f ih =>
    intro l p n A hf h hc
    cases l with
    | nil => rw [lexG_nil] at h; injection h with h; subst h; exact base p n
    | cons c r =>
      have hsp := stp_pos false c r
      cases hq : stp false c r with
      | err e => rw [lexG_err hq] at h; cases h
      | skip m =>
        rw [hq] at hsp
        have hs2 : 1 ≤ m ∧ m ≤ (c :: r).length := hsp
        have hq2 : stp false c (r ++ [10]) = .skip m := by rw [stp_nl (by intro e; rw [hq]; simp), hq]
        rw [lexG_skip hq] at h
        rw [List.cons_append, lexG_skip hq2, ← List.cons_append, List.drop_append_of_le_length hs2.2]
        exact ih _ _ _ _ (by rw [List.length_drop]; omega) h hc
      | tk k x m =>
        rw [hq] at hsp
        have hs2 : 1 ≤ m ∧ m ≤ (c :: r).length := hsp
        have hq2 : stp false c (r ++ [10]) = .tk k x m := by rw [stp_nl (by intro e; rw [hq]; simp), hq]
        by_cases hn : n = 16384
        · rw [lexG_full hq hn] at h; cases h
        · rw [lexG_tk hq hn] at h
          cases hg : lexG (p + m) ((c :: r).drop m) (dfN false k x) (n + 1) with
          | bad q e => rw [hg] at h; cases h
          | toks us =>
            rw [hg] at h
            injection h with h
            subst h
            have hk := hc ⟨k, x, p⟩ (by simp)
            have hdf : dfN false k x = false := by
              unfold dfN
              rw [if_neg hk.2]
              have : (k == 4) = false := by simpa using hk.1
              rw [this]; rfl
            rw [hdf] at hg
            rw [List.cons_append, lexG_tk hq2 hn, ← List.cons_append, List.drop_append_of_le_length hs2.2, hdf, ih _ _ _ us (by rw [List.length_drop]; omega) hg (fun t ht => hc t (by simp [ht]))]
            rfl
def zzW : List UInt8 := [122, 122, 57]
def pHead : List UInt8 := [96, 100, 101, 102, 105, 110, 101, 32, 122, 122, 57, 32, 10]
def pIf : List UInt8 := [96, 105, 102, 100, 101, 102, 32, 122, 122, 57, 10]
def pElse : List UInt8 := [96, 101, 108, 115, 101, 10]
def pEnd : List UInt8 := [96, 101, 110, 100, 105, 102, 10]
def pText (th : Bool) (a b : List UInt8) : List UInt8 := (if th then pHead else []) ++ pIf ++ (a ++ [10]) ++ pElse ++ (b ++ [10]) ++ pEnd
theorem pHead_lex : lexG 0 pHead false 0 = .toks [⟨4, defW, 0⟩, ⟨1, zzW, 8⟩, ⟨5, [], 12⟩] := lexF_ok 20 _ _ _ _ _ (by rfl)
theorem pIf_lex : lexG 0 pIf false 0 = .toks [⟨4, ifdW, 0⟩, ⟨1, zzW, 7⟩] := lexF_ok 20 _ _ _ _ _ (by rfl)
theorem pElse_lex : lexG 0 pElse false 0 = .toks [⟨4, elsW, 0⟩] := lexF_ok 20 _ _ _ _ _ (by rfl)
theorem pEnd_lex : lexG 0 pEnd false 0 = .toks [⟨4, endW, 0⟩] := lexF_ok 20 _ _ _ _ _ (by rfl)
theorem cln_shf {q : Nat} {X : List Tok} (h : ∀ t ∈ X, cln t) : ∀ t ∈ X.map (shf q), cln t := by
  intro t ht
  obtain ⟨u, hu, rfl⟩ := List.mem_map.1 ht
  exact h u hu
theorem nl_app {a b : List UInt8} (h : nl b) : nl (a ++ b) := by obtain ⟨c, rfl⟩ := h; exact ⟨a ++ c, by rw [List.append_assoc]⟩
/-- what the parts' text has, and what comes of it -/
theorem parts_run {a b : List UInt8} {X Y : List Tok} (th : Bool) (ha : lexG 0 a false 0 = .toks X) (hb : lexG 0 b false 0 = .toks Y) (hX : ∀ t ∈ X, cln t) (hY : ∀ t ∈ Y, cln t) (hl : X.length + Y.length ≤ 8192) :
    ∃ l q, lexG 0 (pText th a b) false 0 = .toks l ∧ l.length ≤ 16384 ∧ ∀ e, runP e l ps0 = .ok ((if th then X else Y).map (shf q) ++ [e]) := by
  have ha2 := lex_nl _ a 0 0 X (Nat.le_refl _) ha hX
  have hb2 := lex_nl _ b 0 0 Y (Nat.le_refl _) hb hY
  obtain ⟨H, hH, hHl, hHr⟩ : ∃ H, lexG 0 ((if th then pHead else []) ++ pIf) false 0 = .toks H ∧ H.length ≤ 5 ∧ ∀ e r, ∃ p q s, runP e (H ++ r) ps0 = runP e (⟨4, ifdW, p⟩ :: ⟨1, zzW, q⟩ :: r) s ∧ s.o = [] ∧ s.kp = [] ∧ (s.n zzW).isSome = th := by
    cases th with
    | false => exact ⟨_, pIf_lex, by decide, fun e r => ⟨0, 7, ps0, rfl, rfl, rfl, rfl⟩⟩
    | true =>
      refine ⟨_, lex_cat ⟨pHead.dropLast, rfl⟩ pHead_lex pIf_lex (by decide), by decide, fun e r => ?_⟩
      refine ⟨13, 20, { ps0 with n := ps0.n.put zzW [] }, ?_, rfl, rfl, ?_⟩
      · exact runP_def e 0 8 12 zzW [] _ ps0 rfl (fun t ht => (by cases ht))
      · simp [Nm.put]
  have n1 : nl ((if th then pHead else []) ++ pIf) := nl_app ⟨pIf.dropLast, rfl⟩
  have n2 : nl ((if th then pHead else []) ++ pIf ++ (a ++ [10])) := nl_app ⟨a, rfl⟩
  have n3 : nl ((if th then pHead else []) ++ pIf ++ (a ++ [10]) ++ pElse) := nl_app ⟨pElse.dropLast, rfl⟩
  have n4 : nl ((if th then pHead else []) ++ pIf ++ (a ++ [10]) ++ pElse ++ (b ++ [10])) := nl_app ⟨b, rfl⟩
  have l1 := lex_cat n1 hH ha2 (by omega)
  have l2 := lex_cat n2 l1 pElse_lex (by simp; omega)
  have l3 := lex_cat n3 l2 hb2 (by simp; omega)
  have l4 := lex_cat n4 l3 pEnd_lex (by simp; omega)
  have key : ∀ (x : List UInt8) (q : Nat), List.map (shf q) [(⟨4, x, 0⟩ : Tok)] = [⟨4, x, 0 + q⟩] := fun _ _ => rfl
  rw [key, key] at l4
  obtain ⟨q1, q2, q3, q4, l5⟩ : ∃ q1 q2 q3 q4, lexG 0 (pText th a b) false 0 = .toks (H ++ X.map (shf q1) ++ [(⟨4, elsW, q2⟩ : Tok)] ++ Y.map (shf q3) ++ [(⟨4, endW, q4⟩ : Tok)]) := ⟨_, _, _, _, l4⟩
  refine ⟨_, if th then q1 else q3, l5, by simp; omega, fun e => ?_⟩
  obtain ⟨p, q, s, hr, ho, hk, hn⟩ := hHr e (X.map (shf q1) ++ ⟨4, elsW, q2⟩ :: (Y.map (shf q3) ++ [⟨4, endW, q4⟩]))
  rw [runP_parts e _ _ s p q _ _ zzW ho hk (cln_shf hX) (cln_shf hY) (by simp; omega), hn] at hr
  have e1 : H ++ X.map (shf q1) ++ [(⟨4, elsW, q2⟩ : Tok)] ++ Y.map (shf q3) ++ [⟨4, endW, q4⟩] = H ++ (X.map (shf q1) ++ ⟨4, elsW, q2⟩ :: (Y.map (shf q3) ++ [⟨4, endW, q4⟩])) := by simp
  rw [e1, hr]
  cases th <;> rfl
end Lg

/- Layer 3, plain: the texts by which a run is awake; names that stand for two of the name before each. -/
namespace Lg
open Go
set_option linter.unusedVariables false
set_option linter.unusedSimpArgs false
def aw1 : List UInt8 := [96, 100, 101, 102, 105, 110, 101, 32, 65, 32, 49, 32, 43, 32, 49, 10, 96, 65, 32, 59]
def aw2 : List UInt8 := [96, 100, 101, 102, 105, 110, 101, 32, 66, 32, 96, 66, 10, 96, 66]
def awK1 : List Tok := [⟨4, defW, 0⟩, ⟨1, [65], 8⟩, ⟨2, [49], 10⟩, ⟨3, [43], 12⟩, ⟨2, [49], 14⟩, ⟨5, [], 15⟩, ⟨4, [65], 16⟩, ⟨3, [59], 19⟩]
def awK2 : List Tok := [⟨4, defW, 0⟩, ⟨1, [66], 8⟩, ⟨4, [66], 10⟩, ⟨5, [], 12⟩, ⟨4, [66], 13⟩]
theorem aw1_lex : lexL aw1 = .toks (awK1 ++ [⟨6, [], 20⟩]) := lexL_of (lexF_ok 25 _ _ _ _ _ (by rfl)) (by decide)
theorem aw2_lex : lexL aw2 = .toks (awK2 ++ [⟨6, [], 15⟩]) := lexL_of (lexF_ok 25 _ _ _ _ _ (by rfl)) (by decide)
theorem aw1_run (e : Tok) : runP e awK1 ps0 = .ok [⟨2, [49], 16⟩, ⟨3, [43], 16⟩, ⟨2, [49], 16⟩, ⟨3, [59], 19⟩, e] := by
  unfold awK1
  have h1 := runP_def e 0 8 15 [65] [⟨2, [49], 10⟩, ⟨3, [43], 12⟩, ⟨2, [49], 14⟩] [⟨4, [65], 16⟩, ⟨3, [59], 19⟩] ps0 rfl (by intro t ht; simp at ht; rcases ht with rfl | rfl | rfl <;> decide)
  have e1 : exW (ps0.n.put [65] [⟨2, [49], 10⟩, ⟨3, [43], 12⟩, ⟨2, [49], 14⟩]) 16 (4093 + 1 + 1 + 1) [⟨2, [49], 10⟩, ⟨3, [43], 12⟩, ⟨2, [49], 14⟩] = .ok [⟨2, [49], 16⟩, ⟨3, [43], 16⟩, ⟨2, [49], 16⟩] := by
    rw [exW_tok (by decide), exW_tok (by decide), exW_tok (by decide), exW_nil]; rfl
  have h2 : stpP ⟨4, [65], 16⟩ [⟨3, [59], 19⟩] { ps0 with n := ps0.n.put [65] [⟨2, [49], 10⟩, ⟨3, [43], 12⟩, ⟨2, [49], 14⟩] } = .go 0 ⟨ps0.n.put [65] [⟨2, [49], 10⟩, ⟨3, [43], 12⟩, ⟨2, [49], 14⟩], [], [⟨2, [49], 16⟩, ⟨3, [43], 16⟩, ⟨2, [49], 16⟩]⟩ := by
    rw [stpP_use rfl (by decide)]
    unfold useP
    have hs : stn (ps0.n.put [65] [⟨2, [49], 10⟩, ⟨3, [43], 12⟩, ⟨2, [49], 14⟩]) [65] = some [⟨2, [49], 10⟩, ⟨3, [43], 12⟩, ⟨2, [49], 14⟩] := by
      unfold stn
      rw [if_neg (by decide)]
      simp [Nm.put]
    simp only [hs, e1]
    rfl
  refine h1.trans ?_
  rw [runP_go h2, List.drop_zero]
  have h3 := runP_in e [⟨3, [59], 19⟩] [] ⟨ps0.n.put [65] [⟨2, [49], 10⟩, ⟨3, [43], 12⟩, ⟨2, [49], 14⟩], [], [⟨2, [49], 16⟩, ⟨3, [43], 16⟩, ⟨2, [49], 16⟩]⟩ (by intro t ht; simp at ht; subst ht; exact ⟨by decide, by decide⟩) rfl (by decide)
  refine h3.trans ?_
  rw [runP_nil _ _ rfl]; rfl
theorem aw2_run (e : Tok) : runP e awK2 ps0 = .no 13 31 := by
  unfold awK2
  have h1 := runP_def e 0 8 12 [66] [⟨4, [66], 10⟩] [⟨4, [66], 13⟩] ps0 rfl (by intro t ht; simp at ht; subst ht; decide)
  have hs : stn (ps0.n.put [66] [⟨4, [66], 10⟩]) [66] = some [⟨4, [66], 10⟩] := by
    unfold stn
    rw [if_neg (by decide)]
    simp [Nm.put]
  have h2 : stpP ⟨4, [66], 13⟩ [] { ps0 with n := ps0.n.put [66] [⟨4, [66], 10⟩] } = .no 13 31 := by
    rw [stpP_use rfl (by decide)]
    unfold useP
    simp only [hs]
    rw [exW_self (t := ⟨4, [66], 10⟩) rfl hs]
  refine h1.trans ?_
  rw [runP_no h2]
def nmD (i : Nat) : List UInt8 := if i = 0 then [97, 48] else [97, UInt8.ofNat (48 + i / 10), UInt8.ofNat (48 + i % 10)]
def lnT (i : Nat) : List UInt8 := if i = 0 then [96, 100, 101, 102, 105, 110, 101, 32, 97, 48, 32, 120, 10] else [96, 100, 101, 102, 105, 110, 101, 32] ++ nmD i ++ [32, 96] ++ nmD (i - 1) ++ [32, 96] ++ nmD (i - 1) ++ [10]
def lnK (i : Nat) : List Tok := if i = 0 then [⟨4, defW, 0⟩, ⟨1, nmD 0, 8⟩, ⟨1, [120], 11⟩, ⟨5, [], 12⟩] else [⟨4, defW, 0⟩, ⟨1, nmD i, 8⟩, ⟨4, nmD (i - 1), 12⟩, ⟨4, nmD (i - 1), 14 + (nmD (i - 1)).length⟩, ⟨5, [], 15 + 2 * (nmD (i - 1)).length⟩]
def dT : Nat → List UInt8
  | 0 => lnT 0
  | n + 1 => dT n ++ lnT (n + 1)
def dK : Nat → List Tok
  | 0 => lnK 0
  | n + 1 => dK n ++ (lnK (n + 1)).map (shf (dT n).length)
instance tokEq : DecidableEq Tok := fun a b => if h : a.k = b.k ∧ a.x = b.x ∧ a.p = b.p then isTrue (by cases a; cases b; simp at h; simp [h]) else isFalse (by rintro rfl; exact h ⟨rfl, rfl, rfl⟩)
theorem lnK_ok : ∀ i, i < 32 → lexF 30 0 (lnT i) false 0 = some (lnK i) := by decide +kernel
theorem lastK_ok : ∀ i, i < 32 → lexF 30 0 (96 :: nmD i) false 0 = some [⟨4, nmD i, 0⟩] := by decide +kernel
theorem nmD_dir : ∀ i, i < 32 → dirB (nmD i) = false := by decide +kernel
theorem nmD_inj : ∀ i, i < 32 → ∀ j, j < 32 → nmD i = nmD j → i = j := by decide +kernel
theorem lnT_len : ∀ i, i < 32 → (lnT i).length ≤ 22 := by decide +kernel
theorem lnK_len : ∀ i, (lnK i).length ≤ 5 := by intro i; unfold lnK; split <;> simp
theorem lnT_nl (i : Nat) : nl (lnT i) := by
  unfold lnT
  split
  · exact ⟨[96, 100, 101, 102, 105, 110, 101, 32, 97, 48, 32, 120], rfl⟩
  · exact ⟨_, rfl⟩
theorem dT_lex : ∀ n, n < 32 → lexG 0 (dT n) false 0 = .toks (dK n) ∧ nl (dT n) ∧ (dK n).length ≤ 5 * (n + 1) ∧ (dT n).length ≤ 22 * (n + 1) := by
  intro n
  induction n with
  | zero => intro h; exact ⟨lexF_ok 30 _ _ _ _ _ (lnK_ok 0 h), lnT_nl 0, lnK_len 0, lnT_len 0 h⟩
  | succ n ih =>
    intro h
    obtain ⟨h1, h2, h3, h4⟩ := ih (by omega)
    have a1 := lnK_len (n + 1)
    have a2 := lnT_len (n + 1) h
    refine ⟨lex_cat h2 h1 (lexF_ok 30 _ _ _ _ _ (lnK_ok (n + 1) h)) (by omega), nl_app (lnT_nl _), ?_, ?_⟩
    · show (dK n ++ (lnK (n + 1)).map (shf (dT n).length)).length ≤ _
      rw [List.length_append, List.length_map]; omega
    · show (dT n ++ lnT (n + 1)).length ≤ _
      rw [List.length_append]; omega
theorem dbl_lex (n : Nat) (h : n < 32) : lexL (dT n ++ 96 :: nmD n) = .toks (dK n ++ [⟨4, nmD n, (dT n).length⟩] ++ [⟨6, [], (dT n ++ 96 :: nmD n).length⟩]) := by
  obtain ⟨h1, h2, h3, h4⟩ := dT_lex n h
  have hl : (nmD n).length ≤ 3 := by unfold nmD; split <;> simp
  have h5 := lex_cat h2 h1 (lexF_ok 30 _ _ _ _ _ (lastK_ok n h)) (by simp; omega)
  rw [show List.map (shf (dT n).length) [(⟨4, nmD n, 0⟩ : Tok)] = [⟨4, nmD n, (dT n).length⟩] by simp [shf]] at h5
  exact lexL_of h5 (by simp; omega)
theorem runP_dbl (e : Tok) : ∀ n, n < 32 → ∃ N : Nm, (∀ r, runP e (dK n ++ r) ps0 = runP e r ⟨N, [], []⟩) ∧ (∃ q, N (nmD 0) = some [⟨1, [120], q⟩]) ∧ ∀ j, j < n → ∃ q1 q2, N (nmD (j + 1)) = some [⟨4, nmD j, q1⟩, ⟨4, nmD j, q2⟩] := by
  intro n
  induction n with
  | zero =>
    intro _
    refine ⟨ps0.n.put (nmD 0) [⟨1, [120], 11⟩], fun r => ?_, ⟨11, by simp [Nm.put]⟩, fun j hj => by omega⟩
    exact runP_def e 0 8 12 (nmD 0) [⟨1, [120], 11⟩] r ps0 rfl (by intro t ht; simp at ht; subst ht; decide)
  | succ n ih =>
    intro h
    obtain ⟨N, h1, ⟨q, h2⟩, h3⟩ := ih (by omega)
    obtain ⟨P, hP⟩ : ∃ P, P = (dT n).length := ⟨_, rfl⟩
    refine ⟨N.put (nmD (n + 1)) [⟨4, nmD n, 12 + P⟩, ⟨4, nmD n, 14 + (nmD n).length + P⟩], fun r => ?_, ⟨q, ?_⟩, fun j hj => ?_⟩
    · have e1 : dK (n + 1) ++ r = dK n ++ (⟨4, defW, 0 + P⟩ :: ⟨1, nmD (n + 1), 8 + P⟩ :: ([⟨4, nmD n, 12 + P⟩, ⟨4, nmD n, 14 + (nmD n).length + P⟩] ++ ⟨5, [], 15 + 2 * (nmD n).length + P⟩ :: r)) := by
        rw [hP]
        show (dK n ++ (lnK (n + 1)).map (shf (dT n).length)) ++ r = _
        rw [List.append_assoc]
        rfl
      rw [e1, h1]
      exact runP_def e _ _ _ (nmD (n + 1)) _ r ⟨N, [], []⟩ rfl (by intro t ht; simp at ht; rcases ht with rfl | rfl <;> exact (by decide : (4 : Int) ≠ 5))
    · unfold Nm.put
      rw [if_neg (fun e => by have := nmD_inj 0 (by omega) (n + 1) h e; omega)]
      exact h2
    · unfold Nm.put
      by_cases hjn : j = n
      · subst hjn; exact ⟨_, _, if_pos rfl⟩
      · obtain ⟨q1, q2, h4⟩ := h3 j (by omega)
        refine ⟨q1, q2, ?_⟩
        rw [if_neg (fun e => by have := nmD_inj (j + 1) (by omega) (n + 1) h e; omega)]
        exact h4
theorem dbl_run (e : Tok) (n : Nat) (h : n < 32) (P : Nat) : runP e (dK n ++ [⟨4, nmD n, P⟩]) ps0 = if n ≤ 10 then .ok (List.replicate (2 ^ n) ⟨1, [120], P⟩ ++ [e]) else .no P 31 := by
  obtain ⟨N, h1, ⟨q, h2⟩, h3⟩ := runP_dbl e n h
  rw [h1]
  have st : ∀ j, j < 32 → stn N (nmD j) = N (nmD j) := fun j hj => by unfold stn; rw [nmD_dir j hj]; rfl
  have k0 : ∃ q, stn N (nmD 0) = some [⟨1, [120], q⟩] := ⟨q, by rw [st 0 (by omega)]; exact h2⟩
  have k1 : ∀ j, j < n → ∃ q1 q2, stn N (nmD (j + 1)) = some [⟨4, nmD j, q1⟩, ⟨4, nmD j, q2⟩] := fun j hj => by rw [st (j + 1) (by omega)]; exact h3 j hj
  obtain ⟨b, hb⟩ : ∃ b, stn N (nmD n) = some b := by
    cases n with
    | zero => obtain ⟨q, k0⟩ := k0; exact ⟨_, k0⟩
    | succ i => obtain ⟨a1, a2, k2⟩ := k1 i (by omega); exact ⟨_, k2⟩
  have hd := dbl_ok k0 k1 P n (Nat.le_refl _) b hb 4096
  by_cases hn : n ≤ 10
  · rw [if_pos hn]
    have hp : 2 ^ n ≤ 2 ^ 10 := Nat.pow_le_pow_right (by decide) hn
    have he := hd.1 (by omega)
    have h5 : stpP ⟨4, nmD n, P⟩ [] ⟨N, [], []⟩ = .go 0 ⟨N, [], List.replicate (2 ^ n) ⟨1, [120], P⟩⟩ := by
      rw [stpP_use rfl (nmD_dir n h)]
      unfold useP
      simp only [hb]
      rw [exW_all, he]
      simp only
      unfold keepP
      rw [if_neg (by simp; omega)]
      rfl
    rw [runP_go h5, List.drop_zero, runP_nil _ _ rfl]
  · rw [if_neg hn]
    have hp : 2 ^ 11 ≤ 2 ^ n := Nat.pow_le_pow_right (by decide) (by omega)
    have he := hd.2 (by omega)
    have h5 : stpP ⟨4, nmD n, P⟩ [] ⟨N, [], []⟩ = .no P 31 := by
      rw [stpP_use rfl (nmD_dir n h)]
      unfold useP
      simp only [hb]
      rw [exW_all, he]
    rw [runP_no h5]
end Lg
