/- Layer 19: dumps, plain: codes of nets, lines of values, texts. -/
import Derived.Test.YtodpljgajjcdoaaGreatDoorVU
import Derived.Lib.ItoaNum
import Derived.Lib.ItoaLen
namespace Go.Proofs.YtodpljgajjcdoaaGreatDoor
set_option maxRecDepth 100000
open Go.RowKit Lg Nl Go.Maps Wf
set_option linter.unusedVariables false
set_option linter.unusedSimpArgs false

namespace Vd
def by8 (n : Nat) : UInt8 := UInt8.ofNat n
/-- the code of a net's number below 4,096 -/
def codeL (n : Nat) : List UInt8 := if n < 94 then [by8 (33 + n)] else [by8 (33 + n % 94), by8 (33 + (n / 94 - 1))]
theorem by8_inj {a b : Nat} (ha : a < 256) (hb : b < 256) (h : by8 a = by8 b) : a = b := by
  have := congrArg UInt8.toNat h
  unfold by8 at this
  rw [UInt8.toNat_ofNat', UInt8.toNat_ofNat', Nat.mod_eq_of_lt ha, Nat.mod_eq_of_lt hb] at this
  exact this
theorem codeL_inj {a b : Nat} (ha : a < 4096) (hb : b < 4096) (h : codeL a = codeL b) : a = b := by
  unfold codeL at h
  by_cases h1 : a < 94 <;> by_cases h2 : b < 94
  · rw [if_pos h1, if_pos h2] at h
    injection h with h _
    have := by8_inj (by omega) (by omega) h
    omega
  · rw [if_pos h1, if_neg h2] at h
    injection h with _ h
    cases h
  · rw [if_neg h1, if_pos h2] at h
    injection h with _ h
    cases h
  · rw [if_neg h1, if_neg h2] at h
    injection h with e1 h
    injection h with e2 _
    have a1 := by8_inj (by omega) (by omega) e1
    have a2 := by8_inj (by omega) (by omega) e2
    omega
theorem codeL_len (n : Nat) : 1 ≤ (codeL n).length ∧ (codeL n).length ≤ 2 := by
  unfold codeL
  split <;> simp
/-- a value's line -/
def valL (v : ByteArray) (net : Nat) : List UInt8 := if v.size = 1 then L v ++ codeL net ++ [10] else 98 :: (L v ++ 32 :: (codeL net ++ [10]))
theorem valL_len (v : ByteArray) (net : Nat) : (valL v net).length ≤ v.size + 5 := by
  have := (codeL_len net).2
  have h : (L v).length = v.size := by simp [L]
  unfold valL
  split <;> simp only [List.length_append, List.length_cons, List.length_nil] <;> omega
def headT : List UInt8 := [36, 116, 105, 109, 101, 115, 99, 97, 108, 101, 32, 49, 32, 110, 115, 32, 36, 101, 110, 100, 10, 36, 115, 99, 111, 112, 101, 32, 109, 111, 100, 117, 108, 101, 32, 116, 111, 112, 32, 36, 101, 110, 100, 10]
def varT : List UInt8 := [36, 118, 97, 114, 32, 119, 105, 114, 101, 32]
def endT : List UInt8 := [32, 36, 101, 110, 100, 10]
def midT : List UInt8 := [36, 117, 112, 115, 99, 111, 112, 101, 32, 36, 101, 110, 100, 10, 36, 101, 110, 100, 100, 101, 102, 105, 110, 105, 116, 105, 111, 110, 115, 32, 36, 101, 110, 100, 10, 36, 100, 117, 109, 112, 118, 97, 114, 115, 10]
def doneT : List UInt8 := [36, 101, 110, 100, 10]
/-- the name as it is written -/
def nmT (s : ByteArray) : List UInt8 := if s.size = 0 then [95] else L s
def varL (x : Wv) (i : Nat) : List UInt8 := varT ++ (Lib.itoa (iA x.wd i) ++ (32 :: (codeL i ++ (32 :: (nmT (sA x.nm i) ++ endT)))))
def varsL (x : Wv) (n : Nat) : List UInt8 := (List.range n).flatMap (varL x)
def firstL (x : Wv) (n : Nat) : List UInt8 := (List.range n).flatMap fun i => valL (sA x.fi i) i
/-- the line of a time, where it is another one than the one ahead -/
def timeL (p : Option Int) (t : Int) : List UInt8 := if p = some t then [] else 35 :: (Lib.itoa t ++ [10])
def listL : Option Int → List Ch → List UInt8
  | _, [] => []
  | p, c :: cs => timeL p c.t ++ (valL c.v c.n.toNat ++ listL (some c.t) cs)
def topL (x : Wv) : List UInt8 := headT ++ (varsL x x.nm.length ++ (midT ++ (firstL x x.fi.length ++ doneT)))
def textL (x : Wv) : List UInt8 := topL x ++ listL none x.li
/-- has it a name that is not to be written -/
def undB (x : Wv) : Bool := x.nm.any fun s => decide (L s = [95])
theorem varsL_succ (x : Wv) (n : Nat) : varsL x (n + 1) = varsL x n ++ varL x n := by unfold varsL; rw [List.range_succ, List.flatMap_append]; simp
theorem firstL_succ (x : Wv) (n : Nat) : firstL x (n + 1) = firstL x n ++ valL (sA x.fi n) n := by unfold firstL; rw [List.range_succ, List.flatMap_append]; simp
def lastT : Option Int → List Ch → Option Int
  | p, [] => p
  | _, c :: cs => lastT (some c.t) cs
theorem listL_app : ∀ (a b : List Ch) (p : Option Int), listL p (a ++ b) = listL p a ++ listL (lastT p a) b
  | [], b, p => rfl
  | c :: cs, b, p => by
    show timeL p c.t ++ (valL c.v c.n.toNat ++ listL (some c.t) (cs ++ b)) = (timeL p c.t ++ (valL c.v c.n.toNat ++ listL (some c.t) cs)) ++ listL (lastT (some c.t) cs) b
    rw [listL_app cs b (some c.t)]
    simp [List.append_assoc]
theorem lastT_snoc : ∀ (a : List Ch) (c : Ch) (p : Option Int), lastT p (a ++ [c]) = some c.t
  | [], _, _ => rfl
  | d :: ds, c, p => lastT_snoc ds c (some d.t)
/-- a dump begins with that of each beginning -/
theorem text_take (x : Wv) (k : Nat) : ∃ r, textL x = textL ⟨x.nm, x.wd, x.fi, x.li.take k⟩ ++ r := by
  refine ⟨listL (lastT none (x.li.take k)) (x.li.drop k), ?_⟩
  unfold textL
  have h := listL_app (x.li.take k) (x.li.drop k) none
  rw [List.take_append_drop] at h
  rw [h, List.append_assoc]
  rfl
/-- what Write answers: its error -/
def wrE (x : Wv) : Int := if mayW x then (if undB x then 1 else if 1048576 < (textL x).length then 4 else 0) else 1
def wrT (x : Wv) : List UInt8 := if wrE x = 0 then textL x else []
end Vd
open Vd
end Go.Proofs.YtodpljgajjcdoaaGreatDoor
