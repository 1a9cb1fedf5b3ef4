/-
  Plain facts on bytes and vectors of four values: no program in sight. What each function of layer 1 comes to, as a function on lists of bytes.
-/
namespace Lg
/-- the place of a byte in a table: 0, 1, 2 or 3 -/
def plc (c : UInt8) : Nat := if c = 48 then 0 else if c = 49 then 1 else if c = 120 then 2 else 3
def bitB (c : UInt8) : Bool := c == 48 || c == 49 || c == 120 || c == 122
def knoB (c : UInt8) : Bool := c == 48 || c == 49
def vec (l : List UInt8) : Bool := decide (1 ≤ l.length ∧ l.length ≤ 256) && l.all bitB
def kno (l : List UInt8) : Bool := l.all knoB
/-- & | ^ of two bits, ~ of one, and what two bits agree on -/
def band (a b : UInt8) : UInt8 := if a = 48 ∨ b = 48 then 48 else if a = 49 ∧ b = 49 then 49 else 120
def bnot (a : UInt8) : UInt8 := if a = 48 then 49 else if a = 49 then 48 else 120
def bor (a b : UInt8) : UInt8 := if a = 49 ∨ b = 49 then 49 else if a = 48 ∧ b = 48 then 48 else 120
def bxor (a b : UInt8) : UInt8 := if (a = 48 ∧ b = 49) ∨ (a = 49 ∧ b = 48) then 49 else if (a = 48 ∧ b = 48) ∨ (a = 49 ∧ b = 49) then 48 else 120
def bagr (a b : UInt8) : UInt8 := if a = 48 ∧ b = 48 then 48 else if a = 49 ∧ b = 49 then 49 else 120
/-- a vector's truth -/
def fold (f : UInt8 → UInt8 → UInt8) (c : UInt8) (l : List UInt8) : UInt8 := l.foldl f c
def tru (l : List UInt8) : UInt8 := fold bor 48 l
/-- the number of bits, as one goes along -/
def numStep (n : Nat) (c : UInt8) : Nat := 2 * n + plc c
def num (l : List UInt8) : Nat := l.foldl numStep 0
/-- a number's bits, so many -/
def bits : Nat → Nat → List UInt8
  | _, 0 => []
  | n, w + 1 => bits (n / 2) w ++ [if n % 2 = 1 then 49 else 48]
def fit (l : List UInt8) (w : Nat) : List UInt8 := if w ≤ l.length then l.drop (l.length - w) else List.replicate (w - l.length) 48 ++ l

theorem plc_lt (c : UInt8) : plc c < 4 := by unfold plc; split <;> (try split) <;> (try split) <;> omega
theorem plc_known {c : UInt8} (h : knoB c = true) : plc c ≤ 1 := by
  simp [knoB] at h
  rcases h with rfl | rfl <;> decide

/-- the bytes of a string -/
def L (s : ByteArray) : List UInt8 := s.data.toList
theorem len_L (s : ByteArray) : (L s).length = s.size := by simp [L]
theorem L_get (s : ByteArray) (k : Nat) (h : k < s.size) : (L s)[k]'(by simpa [L] using h) = s[k] := rfl
theorem at_getD (s : ByteArray) (k : Nat) (h : k < s.size) : s[k] = (L s).getD k 0 := by
  rw [← L_get s k h, List.getD_eq_getElem?_getD, List.getElem?_eq_getElem]; rfl
theorem take_snoc (s : ByteArray) (k : Nat) (h : k < s.size) : (L s).take (k + 1) = (L s).take k ++ [s[k]] := by
  rw [List.take_succ_eq_append_getElem (by simpa [L] using h)]; rfl
theorem take_all (s : ByteArray) (k : Nat) (h : s.size ≤ k) : (L s).take k = L s := List.take_of_length_le (by simpa [L] using h)
theorem knoB_iff (c : UInt8) : knoB c = decide ((c.toNat : Int) = 48 ∨ (c.toNat : Int) = 49) := by
  rw [Bool.eq_iff_iff]; simp [knoB, ← UInt8.toNat_inj]; omega
theorem bitB_iff (c : UInt8) : bitB c = decide ((c.toNat : Int) = 48 ∨ (c.toNat : Int) = 49 ∨ (c.toNat : Int) = 120 ∨ (c.toNat : Int) = 122) := by
  rw [Bool.eq_iff_iff]; simp [bitB, ← UInt8.toNat_inj]; omega
theorem all_false {p : UInt8 → Bool} (s : ByteArray) (k : Nat) (h : k < s.size) (hp : p s[k] = false) : (L s).all p = false := by
  rw [List.all_eq_false]; exact ⟨s[k], by rw [← L_get s k h]; exact List.getElem_mem _, by simp [hp]⟩
theorem all_snoc {p : UInt8 → Bool} (s : ByteArray) (k : Nat) (h : k < s.size) (hk : ((L s).take k).all p = true) (hp : p s[k] = true) : ((L s).take (k + 1)).all p = true := by
  rw [take_snoc s k h, List.all_append, hk]; simp [hp]

/-- a string of these bytes -/
def S (l : List UInt8) : ByteArray := ⟨l.toArray⟩
theorem L_S (l : List UInt8) : L (S l) = l := by simp [L, S]
theorem S_L (s : ByteArray) : S (L s) = s := by simp [L, S]
theorem size_S (l : List UInt8) : (S l).size = l.length := by rw [← len_L, L_S]
def rep (n : Nat) (c : UInt8) : List UInt8 := List.replicate n c
theorem len_rep (n : Nat) (c : UInt8) : (rep n c).length = n := by simp [rep]
theorem L_inj {s t : ByteArray} (h : L s = L t) : s = t := by rw [← S_L s, h, S_L]
def tab (n : Nat) (f : Nat → UInt8) : List UInt8 := (List.range n).map f
theorem len_tab (n : Nat) (f : Nat → UInt8) : (tab n f).length = n := by simp [tab]
theorem tab_congr {n : Nat} {f g : Nat → UInt8} (h : ∀ i, i < n → f i = g i) : tab n f = tab n g := List.map_congr_left (by intro i hi; exact h i (by simpa using hi))
/-- the place of a byte, of its number -/
def pn (n : Int) : Nat := if n = 48 then 0 else if n = 49 then 1 else if n = 120 then 2 else 3
theorem pn_plc (c : UInt8) : pn (c.toNat : Int) = plc c := by
  have e1 : ((c.toNat : Int) = 48) = (c = 48) := by rw [← UInt8.toNat_inj]; simp; omega
  have e2 : ((c.toNat : Int) = 49) = (c = 49) := by rw [← UInt8.toNat_inj]; simp; omega
  have e3 : ((c.toNat : Int) = 120) = (c = 120) := by rw [← UInt8.toNat_inj]; simp; omega
  unfold pn plc; simp only [e1, e2, e3]
theorem pn_lt (n : Int) : pn n < 4 := by unfold pn; split <;> (try split) <;> (try split) <;> omega
/-- the bytes from one place to another -/
theorem L_extract (s : ByteArray) (i j : Nat) : L (s.extract i j) = ((L s).drop i).take (j - i) := by
  simp [L, ByteArray.data_extract, Array.toList_extract, List.extract_eq_take_drop]
theorem L_append (s t : ByteArray) : L (s ++ t) = L s ++ L t := by simp [L]
end Lg
