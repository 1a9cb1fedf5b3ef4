/- Plain facts, more: what the operators come to. -/
import Derived.Test.YtnlfepfhabaekaaMath2
import Derived.WalkKit
import Derived.WalkLawsBesides
namespace Lg
open Go
def holdL (op : Int) (a b : List UInt8) : Bool :=
  if op = 17 then Op.bytesLess a b else if op = 18 then (Op.bytesLess a b || a == b) else if op = 19 then (!Op.bytesLess a b && !(a == b)) else if op = 20 then !Op.bytesLess a b else if op = 21 then a == b else !(a == b)
def bitL (b : Bool) : List UInt8 := if b then [49] else [48]
def cmpL (op : Int) (a b : List UInt8) : List UInt8 := if kno a && kno b then bitL (holdL op a b) else [120]
def shlL (a : List UInt8) (n : Nat) : List UInt8 := a.drop n ++ rep n 48
def shrL (a : List UInt8) (n : Nat) : List UInt8 := rep n 48 ++ a.take (a.length - n)
def shiftL (op : Int) (a b : List UInt8) : List UInt8 := if kno b then (if op = 15 then shlL a (upToN b a.length) else shrL a (upToN b a.length)) else rep a.length 120
def oneW (op : Int) (a b : List UInt8) : List UInt8 :=
  if op = 13 then totL a b else if op = 14 then difL a b else if op = 23 then bitwise band a b else if op = 25 then bitwise bor a b else if op = 24 then bitwise bxor a b else cmpL op a b
def binL (op : Int) (a b : List UInt8) : List UInt8 :=
  if op = 15 ∨ op = 16 then shiftL op a b else if op = 26 then [band (tru a) (tru b)] else if op = 27 then [bor (tru a) (tru b)] else oneW op (fit a (max a.length b.length)) (fit b (max a.length b.length))
def unaL (op : Int) (a : List UInt8) : List UInt8 :=
  if op = 7 then turnL a else if op = 9 then difL (rep a.length 48) a else if op = 10 then [fold band 49 a] else if op = 11 then [tru a] else if op = 12 then [fold bxor 48 a] else [bnot (tru a)]
def condL (c a b : List UInt8) : List UInt8 := if tru c = 49 then a else if tru c = 48 then b else bitwise bagr a b
theorem len_fit (l : List UInt8) (w : Nat) : (fit l w).length = w := by unfold fit; split <;> simp <;> omega
theorem vec_len {l : List UInt8} (h : vec l = true) : 1 ≤ l.length ∧ l.length ≤ 256 := by simp [vec] at h; exact h.1
theorem len_turnL (a : List UInt8) : (turnL a).length = a.length := len_tab _ _
end Lg
